/-
  What letters say as bytes (LayCast, LayList, LayPledge, LayShare, LayCert, LayOut) of package letter is what the plain mathematics of the text Let says; all memory that was there is left as it was. Conditions: lists are read in memory (IntsR, StrsR), have no more than 1000000 elements; numbers and lengths fit.
-/
import Derived.Test.YtlinpbmglcjkkaaDoorRLetB
import Derived.Test.YtlinpbmglcjkkaaDoorJoh
namespace Go.Proofs.YtlinpbmglcjkkaaDoor.LetA
open Go.RowKit Mur Prt Lanes Cod Let
open Ros (glue)
open RLet (layX_size nums_most strs_most bl lay_bl strB_errs cellInt cellStr cellInts cellStrs okB okL okN)
set_option maxRecDepth 100000
set_option linter.unusedSimpArgs false

set_option maxHeartbeats 800000 in
theorem layCast_any (b : ByteArray) (X : ByteArray) (E : Int) (w : World) (hX : X = layX (str b.data.toList)) (hE : E = errV (str b.data.toList)) (h1 : b.size ≤ 9223372036854775807) :
    Calls Tryd.prog 27 #[.agg #[.string b]] w fun e w' => e = .returned (.tuple #[.string X, .int .i64 E]) ∧ Below w.heap.size w w' := by
  have R1 := Lib.hid (fun u => Prt.str_any b u X E hX hE h1)
  have HM := Lib.hid (Hold.Hld.start w)
  clear hX hE h1
  go_enter Tryd.func27, Tryd.ntmps27
  go_wp2_with ((first
    | (with_reducible refine Hold.box HM.out rfl rfl rfl ?_; clear HM; intro b0 w HM; simp only [List.nil_append] at HM; replace HM := Lib.hid HM)
    | (with_reducible refine Hold.load1 HM.out 0 (c := .string b) rfl rfl rfl rfl (rfl) (cellStr) ?_)
    | (with_reducible refine (R1.out _).mono ?_; rintro e w ⟨rfl, hb⟩; replace HM := Lib.hid (HM.out.next hb); clear hb)))

  go_ret2
  exact ⟨rfl, HM.out.below⟩

set_option maxHeartbeats 800000 in
theorem layPledge_any (d : ByteArray) (X : ByteArray) (E : Int) (w : World) (hX : X = layX (layPledge d.data.toList)) (hE : E = errV (layPledge d.data.toList)) :
    Calls Tryd.prog 32 #[.agg #[.string d]] w fun e w' => e = .returned (.tuple #[.string X, .int .i64 E]) ∧ Below w.heap.size w w' := by
  have HM := Lib.hid (Hold.Hld.start w)
  have hsl : d.data.toList.length = d.size := rfl
  by_cases h : d.size = 32
  · rw [layPledge, if_pos (by rw [hsl]; exact h)] at hX hE
    obtain rfl : X = d := by rw [hX]; cases d; rfl
    obtain rfl : E = 0 := hE
    have hd : ((X.size : Int) != 32) = false := by simp; omega
    clear hX h hsl
    go_enter Tryd.func32, Tryd.ntmps32
    go_wp2_with ((first
      | (with_reducible refine Hold.box HM.out rfl rfl rfl ?_; clear HM; intro b0 w HM; simp only [List.nil_append] at HM; replace HM := Lib.hid HM)
      | (with_reducible refine Hold.load1 HM.out 0 (c := .string X) rfl rfl rfl rfl (rfl) (cellStr) ?_)))

    go_ret2
    exact ⟨rfl, HM.out.below⟩
  · rw [layPledge, if_neg (by rw [hsl]; exact h)] at hX hE
    obtain rfl : X = ⟨#[]⟩ := hX
    obtain rfl : E = 1 := hE
    have hd : ((d.size : Int) != 32) = true := by simp; omega
    clear h hsl
    go_enter Tryd.func32, Tryd.ntmps32
    go_wp2_with ((first
      | (with_reducible refine Hold.box HM.out rfl rfl rfl ?_; clear HM; intro b0 w HM; simp only [List.nil_append] at HM; replace HM := Lib.hid HM)
      | (with_reducible refine Hold.load1 HM.out 0 (c := .string d) rfl rfl rfl rfl (rfl) (cellStr) ?_)))

    go_ret2
    exact ⟨rfl, HM.out.below⟩

set_option maxHeartbeats 800000 in
theorem layOut_any (zs : List ByteArray) (n : Nat) (a : Option Addr) (cap : Nat) (X : ByteArray) (E : Int) (w : World) (hX : X = layX (layAll strB zs)) (hE : E = errV (layAll strB zs)) (hr : StrsR w a zs) (hn : zs.length = n) (hn2 : n ≤ 1000000) (hz : ∀ z ∈ zs, z.size ≤ 9223372036854775807) :
    Calls Tryd.prog 39 #[.agg #[.slice a n cap]] w fun e w' => e = .returned (.tuple #[.string X, .int .i64 E]) ∧ Below w.heap.size w w' := by
  have R1 := Lib.hid (fun u (hu : Below w.heap.size w u) => Prt.strs_any zs n a cap u X E hX hE (hr.below hu) hn hn2 hz)
  have HM := Lib.hid (Hold.Hld.start w)
  clear hX hE hr hn hz
  go_enter Tryd.func39, Tryd.ntmps39
  go_wp2_with ((first
    | (with_reducible refine Hold.box HM.out rfl rfl rfl ?_; clear HM; intro b0 w HM; simp only [List.nil_append] at HM; replace HM := Lib.hid HM)
    | (with_reducible refine Hold.load1 HM.out 0 (c := .slice a n cap) rfl rfl rfl rfl (rfl) (cellStrs) ?_)
    | (with_reducible refine (R1.out _ HM.out.below).mono ?_; rintro e w ⟨rfl, hb⟩; replace HM := Lib.hid (HM.out.next hb); clear hb)))

  go_ret2
  exact ⟨rfl, HM.out.below⟩

set_option maxHeartbeats 800000 in
theorem layList_any (zs : List Int) (n : Nat) (a : Option Addr) (cap : Nat) (z : Int) (X : ByteArray) (E : Int) (w : World) (hX : X = layX (layList zs z)) (hE : E = errV (layList zs z)) (hr : IntsR w a zs) (hn : zs.length = n) (hn2 : n ≤ 1000000) (hz : ∀ z ∈ zs, -9223372036854775808 ≤ z ∧ z ≤ 9223372036854775807) (h1 : -9223372036854775808 ≤ z) (h2 : z ≤ 9223372036854775807) :
    Calls Tryd.prog 30 #[.agg #[.slice a n cap, .int .i64 z]] w fun e w' => e = .returned (.tuple #[.string X, .int .i64 E]) ∧ Below w.heap.size w w' := by
  obtain ⟨A, hA⟩ : ∃ A, A = layX (layAll num zs) := ⟨_, rfl⟩
  obtain ⟨F, hF⟩ : ∃ F, F = errV (layAll num zs) := ⟨_, rfl⟩
  obtain ⟨B, hB⟩ : ∃ A, A = layX (num z) := ⟨_, rfl⟩
  obtain ⟨G, hG⟩ : ∃ F, F = errV (num z) := ⟨_, rfl⟩
  have R1 := Lib.hid (fun u (hu : Below w.heap.size w u) => Prt.nums_any zs n a cap u A F hA hF (hr.below hu) hn hn2 hz)
  have R2 := Lib.hid (fun u => Prt.num_any z u B G hB hG h1 h2)
  have R3 := Lib.hid (fun u => Joi.two_any (layAll num zs) (num z) A B X F G E u hA hF hB hG hX hE (all_errs num num_err zs) (num_err z) (by rw [hA]; exact Nat.le_trans (layX_size _ _ (nums_most zs)) (by omega)) (by rw [hB]; exact Nat.le_trans (layX_size _ 5 (fun a h => Nat.le_of_eq (num_length _ a h))) (by omega)))
  have O1 := Lib.hid (fun u => Joi.of_any A F u)
  have O2 := Lib.hid (fun u => Joi.of_any B G u)
  have HM := Lib.hid (Hold.Hld.start w)
  clear hX hE hr hn hz h1 h2 hA hF hB hG
  go_enter Tryd.func30, Tryd.ntmps30
  go_upto_region 1 with ((first
    | (with_reducible refine Hold.box HM.out rfl rfl rfl ?_; clear HM; intro b0 w HM; simp only [List.nil_append] at HM; replace HM := Lib.hid HM)))

  refine wp_region_held (S := fun u => Hold.Hld _ _ u) (by kernel_rfl) (Steady.phase 0 12 6 (by kernel_rfl) (by as_aux_lemma => kernel_rfl) HM.out.drew ?_)
  simp only [List.take_succ_cons, List.take_zero, List.drop_succ_cons, List.drop_zero]
  refine Steady.take ?_ rfl (by intro u hu; go_simp; with_reducible rfl) ?_
  simp only [Act.put, List.setIfInBounds_toArray, List.set_cons_zero, List.set_cons_succ]
  refine Steady.take (.slice a n cap) rfl (fun u hu => Hold.load1_run hu 0 rfl rfl rfl (rfl) (cellInts)) ?_
  simp only [Act.put, List.setIfInBounds_toArray, List.set_cons_zero, List.set_cons_succ]
  refine Steady.call _ _ _ rfl ?_ (Joi.keptI R1.out) ?_
  · intro u
    go_simp
  simp only [Act.put, List.setIfInBounds_toArray, List.set_cons_zero, List.set_cons_succ]
  refine Steady.take ?_ rfl (by intro u hu; go_simp; with_reducible rfl) ?_
  simp only [Act.put, List.setIfInBounds_toArray, List.set_cons_zero, List.set_cons_succ]
  refine Steady.take ?_ rfl (by intro u hu; go_simp; with_reducible rfl) ?_
  simp only [Act.put, List.setIfInBounds_toArray, List.set_cons_zero, List.set_cons_succ]
  refine Steady.call _ _ _ rfl ?_ (Hold.kept O1.out) ?_
  · intro u
    go_simp
  simp only [Act.put, List.setIfInBounds_toArray, List.set_cons_zero, List.set_cons_succ]
  refine Steady.take ?_ rfl (by intro u hu; go_simp; with_reducible rfl) ?_
  simp only [Act.put, List.setIfInBounds_toArray, List.set_cons_zero, List.set_cons_succ]
  refine Steady.take (.int .i64 z) rfl (fun u hu => Hold.load1_run hu 0 rfl rfl rfl (rfl) (cellInt)) ?_
  simp only [Act.put, List.setIfInBounds_toArray, List.set_cons_zero, List.set_cons_succ]
  refine Steady.call _ _ _ rfl ?_ (Hold.kept R2.out) ?_
  · intro u
    go_simp
  simp only [Act.put, List.setIfInBounds_toArray, List.set_cons_zero, List.set_cons_succ]
  refine Steady.take ?_ rfl (by intro u hu; go_simp; with_reducible rfl) ?_
  simp only [Act.put, List.setIfInBounds_toArray, List.set_cons_zero, List.set_cons_succ]
  refine Steady.take ?_ rfl (by intro u hu; go_simp; with_reducible rfl) ?_
  simp only [Act.put, List.setIfInBounds_toArray, List.set_cons_zero, List.set_cons_succ]
  refine Steady.call _ _ _ rfl ?_ (Hold.kept O2.out) ?_
  · intro u
    go_simp
  simp only [Act.put, List.setIfInBounds_toArray, List.set_cons_zero, List.set_cons_succ]
  refine Steady.nil ?_
  clear HM
  intro w5 HM
  replace HM := Lib.hid HM
  refine Joi.make_next (i := 12) (v := .slice (some ⟨w5.heap.size, 0, none⟩) 2 2) (w' := w5.alloc (.cells #[.string A, .int .i64 F, .string B, .int .i64 G] 98)) (by kernel_rfl) (by simp only [List.getElem?_toArray, List.getElem?_cons_succ, List.getElem?_cons_zero]; rfl) (by kernel_rfl) (by exact Joi.run_op w5 2 _ _ rfl (by decide) (by kernel_rfl)) (HM.out.next ((Below.refl _ _).alloc (Nat.le_refl _) _)) ?_
  simp only [List.getElem_toArray, List.getElem_cons_succ, List.getElem_cons_zero, Act.put, List.setIfInBounds_toArray, List.set_cons_zero, List.set_cons_succ]
  refine Steady.call_next (i := 13) (by kernel_rfl) (by simp only [List.getElem?_toArray, List.getElem?_cons_succ, List.getElem?_cons_zero]; rfl) (by kernel_rfl) _ _ (by go_simp) (fun v w' => v = .tuple #[.string X, .int .i64 E] ∧ Hold.Hld _ _ w') ((R3.out w5).mono (fun e w' h => ⟨_, h.1, rfl, (HM.out.next ((Below.refl _ _).alloc (Nat.le_refl _) _)).next h.2⟩)) ?_
  clear HM
  rintro v w6 ⟨rfl, HM⟩
  replace HM := Lib.hid HM
  refine ⟨HM.out, ?_⟩
  simp only [List.getElem_toArray, List.getElem_cons_succ, List.getElem_cons_zero, Act.put, List.setIfInBounds_toArray, List.set_cons_zero, List.set_cons_succ]
  refine Steady.phase 14 18 0 (by kernel_rfl) (by as_aux_lemma => kernel_rfl) HM.out ?_
  simp only [List.take_succ_cons, List.take_zero, List.drop_succ_cons, List.drop_zero]
  refine Steady.take ?_ rfl (by intro u hu; go_simp; with_reducible rfl) ?_
  simp only [Act.put, List.setIfInBounds_toArray, List.set_cons_zero, List.set_cons_succ]
  refine Steady.take ?_ rfl (by intro u hu; go_simp; with_reducible rfl) ?_
  simp only [Act.put, List.setIfInBounds_toArray, List.set_cons_zero, List.set_cons_succ]
  refine Steady.take ?_ rfl (by intro u hu; go_simp; with_reducible rfl) ?_
  simp only [Act.put, List.setIfInBounds_toArray, List.set_cons_zero, List.set_cons_succ]
  refine Steady.take ?_ rfl (by intro u hu; go_simp; with_reducible rfl) ?_
  simp only [Act.put, List.setIfInBounds_toArray, List.set_cons_zero, List.set_cons_succ]
  refine Steady.nil ?_
  clear HM
  intro w7 HM
  replace HM := Lib.hid HM
  refine wpAnyH_done (by kernel_rfl) ?_ 0

  go_wp2
  go_ret2
  exact ⟨rfl, HM.out.below⟩

set_option maxHeartbeats 800000 in
theorem layShare_any (b : ByteArray) (zs : List ByteArray) (n : Nat) (a : Option Addr) (cap : Nat) (X : ByteArray) (E : Int) (w : World) (hX : X = layX (glue (str b.data.toList) (layAll strB zs))) (hE : E = errV (glue (str b.data.toList) (layAll strB zs))) (hr : StrsR w a zs) (hn : zs.length = n) (hn2 : n ≤ 1000000) (hz : ∀ z ∈ zs, z.size ≤ 9223372036854775807) (h1 : b.size ≤ 9223372036854775807) :
    Calls Tryd.prog 35 #[.agg #[.string b, .slice a n cap]] w fun e w' => e = .returned (.tuple #[.string X, .int .i64 E]) ∧ Below w.heap.size w w' := by
  obtain ⟨A, hA⟩ : ∃ A, A = layX (str b.data.toList) := ⟨_, rfl⟩
  obtain ⟨F, hF⟩ : ∃ F, F = errV (str b.data.toList) := ⟨_, rfl⟩
  obtain ⟨B, hB⟩ : ∃ A, A = layX (layAll strB zs) := ⟨_, rfl⟩
  obtain ⟨G, hG⟩ : ∃ F, F = errV (layAll strB zs) := ⟨_, rfl⟩
  have R1 := Lib.hid (fun u => Prt.str_any b u A F hA hF h1)
  have R2 := Lib.hid (fun u (hu : Below w.heap.size w u) => Prt.strs_any zs n a cap u B G hB hG (hr.below hu) hn hn2 hz)
  have R3 := Lib.hid (fun u => Joi.two_any (str b.data.toList) (layAll strB zs) A B X F G E u hA hF hB hG hX hE (str_err _) (strB_errs zs) (by rw [hA]; exact Nat.le_trans (layX_size _ _ (str_length _)) (by omega)) (by rw [hB]; exact Nat.le_trans (layX_size _ _ (strs_most zs)) (by omega)))
  have O1 := Lib.hid (fun u => Joi.of_any A F u)
  have O2 := Lib.hid (fun u => Joi.of_any B G u)
  have HM := Lib.hid (Hold.Hld.start w)
  clear hX hE hr hn hz h1 hA hF hB hG
  go_enter Tryd.func35, Tryd.ntmps35
  go_upto_region 1 with ((first
    | (with_reducible refine Hold.box HM.out rfl rfl rfl ?_; clear HM; intro b0 w HM; simp only [List.nil_append] at HM; replace HM := Lib.hid HM)))

  refine wp_region_held (S := fun u => Hold.Hld _ _ u) (by kernel_rfl) (Steady.phase 0 12 6 (by kernel_rfl) (by as_aux_lemma => kernel_rfl) HM.out.drew ?_)
  simp only [List.take_succ_cons, List.take_zero, List.drop_succ_cons, List.drop_zero]
  refine Steady.take ?_ rfl (by intro u hu; go_simp; with_reducible rfl) ?_
  simp only [Act.put, List.setIfInBounds_toArray, List.set_cons_zero, List.set_cons_succ]
  refine Steady.take (.string b) rfl (fun u hu => Hold.load1_run hu 0 rfl rfl rfl (rfl) (cellStr)) ?_
  simp only [Act.put, List.setIfInBounds_toArray, List.set_cons_zero, List.set_cons_succ]
  refine Steady.call _ _ _ rfl ?_ (Hold.kept R1.out) ?_
  · intro u
    go_simp
  simp only [Act.put, List.setIfInBounds_toArray, List.set_cons_zero, List.set_cons_succ]
  refine Steady.take ?_ rfl (by intro u hu; go_simp; with_reducible rfl) ?_
  simp only [Act.put, List.setIfInBounds_toArray, List.set_cons_zero, List.set_cons_succ]
  refine Steady.take ?_ rfl (by intro u hu; go_simp; with_reducible rfl) ?_
  simp only [Act.put, List.setIfInBounds_toArray, List.set_cons_zero, List.set_cons_succ]
  refine Steady.call _ _ _ rfl ?_ (Hold.kept O1.out) ?_
  · intro u
    go_simp
  simp only [Act.put, List.setIfInBounds_toArray, List.set_cons_zero, List.set_cons_succ]
  refine Steady.take ?_ rfl (by intro u hu; go_simp; with_reducible rfl) ?_
  simp only [Act.put, List.setIfInBounds_toArray, List.set_cons_zero, List.set_cons_succ]
  refine Steady.take (.slice a n cap) rfl (fun u hu => Hold.load1_run hu 0 rfl rfl rfl (rfl) (cellStrs)) ?_
  simp only [Act.put, List.setIfInBounds_toArray, List.set_cons_zero, List.set_cons_succ]
  refine Steady.call _ _ _ rfl ?_ (Joi.keptI R2.out) ?_
  · intro u
    go_simp
  simp only [Act.put, List.setIfInBounds_toArray, List.set_cons_zero, List.set_cons_succ]
  refine Steady.take ?_ rfl (by intro u hu; go_simp; with_reducible rfl) ?_
  simp only [Act.put, List.setIfInBounds_toArray, List.set_cons_zero, List.set_cons_succ]
  refine Steady.take ?_ rfl (by intro u hu; go_simp; with_reducible rfl) ?_
  simp only [Act.put, List.setIfInBounds_toArray, List.set_cons_zero, List.set_cons_succ]
  refine Steady.call _ _ _ rfl ?_ (Hold.kept O2.out) ?_
  · intro u
    go_simp
  simp only [Act.put, List.setIfInBounds_toArray, List.set_cons_zero, List.set_cons_succ]
  refine Steady.nil ?_
  clear HM
  intro w5 HM
  replace HM := Lib.hid HM
  refine Joi.make_next (i := 12) (v := .slice (some ⟨w5.heap.size, 0, none⟩) 2 2) (w' := w5.alloc (.cells #[.string A, .int .i64 F, .string B, .int .i64 G] 98)) (by kernel_rfl) (by simp only [List.getElem?_toArray, List.getElem?_cons_succ, List.getElem?_cons_zero]; rfl) (by kernel_rfl) (by exact Joi.run_op w5 2 _ _ rfl (by decide) (by kernel_rfl)) (HM.out.next ((Below.refl _ _).alloc (Nat.le_refl _) _)) ?_
  simp only [List.getElem_toArray, List.getElem_cons_succ, List.getElem_cons_zero, Act.put, List.setIfInBounds_toArray, List.set_cons_zero, List.set_cons_succ]
  refine Steady.call_next (i := 13) (by kernel_rfl) (by simp only [List.getElem?_toArray, List.getElem?_cons_succ, List.getElem?_cons_zero]; rfl) (by kernel_rfl) _ _ (by go_simp) (fun v w' => v = .tuple #[.string X, .int .i64 E] ∧ Hold.Hld _ _ w') ((R3.out w5).mono (fun e w' h => ⟨_, h.1, rfl, (HM.out.next ((Below.refl _ _).alloc (Nat.le_refl _) _)).next h.2⟩)) ?_
  clear HM
  rintro v w6 ⟨rfl, HM⟩
  replace HM := Lib.hid HM
  refine ⟨HM.out, ?_⟩
  simp only [List.getElem_toArray, List.getElem_cons_succ, List.getElem_cons_zero, Act.put, List.setIfInBounds_toArray, List.set_cons_zero, List.set_cons_succ]
  refine Steady.phase 14 18 0 (by kernel_rfl) (by as_aux_lemma => kernel_rfl) HM.out ?_
  simp only [List.take_succ_cons, List.take_zero, List.drop_succ_cons, List.drop_zero]
  refine Steady.take ?_ rfl (by intro u hu; go_simp; with_reducible rfl) ?_
  simp only [Act.put, List.setIfInBounds_toArray, List.set_cons_zero, List.set_cons_succ]
  refine Steady.take ?_ rfl (by intro u hu; go_simp; with_reducible rfl) ?_
  simp only [Act.put, List.setIfInBounds_toArray, List.set_cons_zero, List.set_cons_succ]
  refine Steady.take ?_ rfl (by intro u hu; go_simp; with_reducible rfl) ?_
  simp only [Act.put, List.setIfInBounds_toArray, List.set_cons_zero, List.set_cons_succ]
  refine Steady.take ?_ rfl (by intro u hu; go_simp; with_reducible rfl) ?_
  simp only [Act.put, List.setIfInBounds_toArray, List.set_cons_zero, List.set_cons_succ]
  refine Steady.nil ?_
  clear HM
  intro w7 HM
  replace HM := Lib.hid HM
  refine wpAnyH_done (by kernel_rfl) ?_ 0

  go_wp2
  go_ret2
  exact ⟨rfl, HM.out.below⟩

set_option maxHeartbeats 800000 in
theorem layCert_any (b : ByteArray) (zs : List Int) (n : Nat) (a : Option Addr) (cap : Nat) (z : Int) (X : ByteArray) (E : Int) (w : World) (hX : X = layX (layCert b.data.toList zs z)) (hE : E = errV (layCert b.data.toList zs z)) (hr : IntsR w a zs) (hn : zs.length = n) (hn2 : n ≤ 1000000) (hz : ∀ z ∈ zs, -9223372036854775808 ≤ z ∧ z ≤ 9223372036854775807) (h1 : -9223372036854775808 ≤ z) (h2 : z ≤ 9223372036854775807) (h3 : b.size ≤ 9223372036854775807) :
    Calls Tryd.prog 37 #[.agg #[.string b, .slice a n cap, .int .i64 z]] w fun e w' => e = .returned (.tuple #[.string X, .int .i64 E]) ∧ Below w.heap.size w w' := by
  obtain ⟨A, hA⟩ : ∃ A, A = layX (str b.data.toList) := ⟨_, rfl⟩
  obtain ⟨F, hF⟩ : ∃ F, F = errV (str b.data.toList) := ⟨_, rfl⟩
  obtain ⟨B, hB⟩ : ∃ A, A = layX (layAll num zs) := ⟨_, rfl⟩
  obtain ⟨G, hG⟩ : ∃ F, F = errV (layAll num zs) := ⟨_, rfl⟩
  obtain ⟨C, hC⟩ : ∃ A, A = layX (num z) := ⟨_, rfl⟩
  obtain ⟨J, hJ⟩ : ∃ F, F = errV (num z) := ⟨_, rfl⟩
  have sA : A.size ≤ 6002 := by rw [hA]; exact layX_size _ _ (str_length _)
  have sB : B.size ≤ 2000 := by rw [hB]; exact layX_size _ _ (nums_most zs)
  have sC : C.size ≤ 5 := by rw [hC]; exact layX_size _ 5 (fun a h => Nat.le_of_eq (num_length _ a h))
  have R1 := Lib.hid (fun u => Prt.str_any b u A F hA hF h3)
  have R2 := Lib.hid (fun u (hu : Below w.heap.size w u) => Prt.nums_any zs n a cap u B G hB hG (hr.below hu) hn hn2 hz)
  have R4 := Lib.hid (fun u => Prt.num_any z u C J hC hJ h1 h2)
  have R3 := Lib.hid (fun u => Joi.three_any (str b.data.toList) (layAll num zs) (num z) A B C X F G J E u hA hF hB hG hC hJ hX hE (str_err _) (all_errs num num_err zs) (num_err z) (by omega) (by omega) (by omega))
  have O1 := Lib.hid (fun u => Joi.of_any A F u)
  have O2 := Lib.hid (fun u => Joi.of_any B G u)
  have O3 := Lib.hid (fun u => Joi.of_any C J u)
  have HM := Lib.hid (Hold.Hld.start w)
  clear hX hE hr hn hz h1 h2 h3 hA hF hB hG hC hJ sA sB sC
  go_enter Tryd.func37, Tryd.ntmps37
  go_upto_region 1 with ((first
    | (with_reducible refine Hold.box HM.out rfl rfl rfl ?_; clear HM; intro b0 w HM; simp only [List.nil_append] at HM; replace HM := Lib.hid HM)))

  refine wp_region_held (S := fun u => Hold.Hld _ _ u) (by kernel_rfl) (Steady.phase 0 18 6 (by kernel_rfl) (by as_aux_lemma => kernel_rfl) HM.out.drew ?_)
  simp only [List.take_succ_cons, List.take_zero, List.drop_succ_cons, List.drop_zero]
  refine Steady.take ?_ rfl (by intro u hu; go_simp; with_reducible rfl) ?_
  simp only [Act.put, List.setIfInBounds_toArray, List.set_cons_zero, List.set_cons_succ]
  refine Steady.take (.string b) rfl (fun u hu => Hold.load1_run hu 0 rfl rfl rfl (rfl) (cellStr)) ?_
  simp only [Act.put, List.setIfInBounds_toArray, List.set_cons_zero, List.set_cons_succ]
  refine Steady.call _ _ _ rfl ?_ (Hold.kept R1.out) ?_
  · intro u
    go_simp
  simp only [Act.put, List.setIfInBounds_toArray, List.set_cons_zero, List.set_cons_succ]
  refine Steady.take ?_ rfl (by intro u hu; go_simp; with_reducible rfl) ?_
  simp only [Act.put, List.setIfInBounds_toArray, List.set_cons_zero, List.set_cons_succ]
  refine Steady.take ?_ rfl (by intro u hu; go_simp; with_reducible rfl) ?_
  simp only [Act.put, List.setIfInBounds_toArray, List.set_cons_zero, List.set_cons_succ]
  refine Steady.call _ _ _ rfl ?_ (Hold.kept O1.out) ?_
  · intro u
    go_simp
  simp only [Act.put, List.setIfInBounds_toArray, List.set_cons_zero, List.set_cons_succ]
  refine Steady.take ?_ rfl (by intro u hu; go_simp; with_reducible rfl) ?_
  simp only [Act.put, List.setIfInBounds_toArray, List.set_cons_zero, List.set_cons_succ]
  refine Steady.take (.slice a n cap) rfl (fun u hu => Hold.load1_run hu 0 rfl rfl rfl (rfl) (cellInts)) ?_
  simp only [Act.put, List.setIfInBounds_toArray, List.set_cons_zero, List.set_cons_succ]
  refine Steady.call _ _ _ rfl ?_ (Joi.keptI R2.out) ?_
  · intro u
    go_simp
  simp only [Act.put, List.setIfInBounds_toArray, List.set_cons_zero, List.set_cons_succ]
  refine Steady.take ?_ rfl (by intro u hu; go_simp; with_reducible rfl) ?_
  simp only [Act.put, List.setIfInBounds_toArray, List.set_cons_zero, List.set_cons_succ]
  refine Steady.take ?_ rfl (by intro u hu; go_simp; with_reducible rfl) ?_
  simp only [Act.put, List.setIfInBounds_toArray, List.set_cons_zero, List.set_cons_succ]
  refine Steady.call _ _ _ rfl ?_ (Hold.kept O2.out) ?_
  · intro u
    go_simp
  simp only [Act.put, List.setIfInBounds_toArray, List.set_cons_zero, List.set_cons_succ]
  refine Steady.take ?_ rfl (by intro u hu; go_simp; with_reducible rfl) ?_
  simp only [Act.put, List.setIfInBounds_toArray, List.set_cons_zero, List.set_cons_succ]
  refine Steady.take (.int .i64 z) rfl (fun u hu => Hold.load1_run hu 0 rfl rfl rfl (rfl) (cellInt)) ?_
  simp only [Act.put, List.setIfInBounds_toArray, List.set_cons_zero, List.set_cons_succ]
  refine Steady.call _ _ _ rfl ?_ (Hold.kept R4.out) ?_
  · intro u
    go_simp
  simp only [Act.put, List.setIfInBounds_toArray, List.set_cons_zero, List.set_cons_succ]
  refine Steady.take ?_ rfl (by intro u hu; go_simp; with_reducible rfl) ?_
  simp only [Act.put, List.setIfInBounds_toArray, List.set_cons_zero, List.set_cons_succ]
  refine Steady.take ?_ rfl (by intro u hu; go_simp; with_reducible rfl) ?_
  simp only [Act.put, List.setIfInBounds_toArray, List.set_cons_zero, List.set_cons_succ]
  refine Steady.call _ _ _ rfl ?_ (Hold.kept O3.out) ?_
  · intro u
    go_simp
  simp only [Act.put, List.setIfInBounds_toArray, List.set_cons_zero, List.set_cons_succ]
  refine Steady.nil ?_
  clear HM
  intro w5 HM
  replace HM := Lib.hid HM
  refine Joi.make_next (i := 18) (v := .slice (some ⟨w5.heap.size, 0, none⟩) 3 3) (w' := w5.alloc (.cells #[.string A, .int .i64 F, .string B, .int .i64 G, .string C, .int .i64 J] 98)) (by kernel_rfl) (by simp only [List.getElem?_toArray, List.getElem?_cons_succ, List.getElem?_cons_zero]; rfl) (by kernel_rfl) (by exact Joi.run_op w5 3 _ _ rfl (by decide) (by kernel_rfl)) (HM.out.next ((Below.refl _ _).alloc (Nat.le_refl _) _)) ?_
  simp only [List.getElem_toArray, List.getElem_cons_succ, List.getElem_cons_zero, Act.put, List.setIfInBounds_toArray, List.set_cons_zero, List.set_cons_succ]
  refine Steady.call_next (i := 19) (by kernel_rfl) (by simp only [List.getElem?_toArray, List.getElem?_cons_succ, List.getElem?_cons_zero]; rfl) (by kernel_rfl) _ _ (by go_simp) (fun v w' => v = .tuple #[.string X, .int .i64 E] ∧ Hold.Hld _ _ w') ((R3.out w5).mono (fun e w' h => ⟨_, h.1, rfl, (HM.out.next ((Below.refl _ _).alloc (Nat.le_refl _) _)).next h.2⟩)) ?_
  clear HM
  rintro v w6 ⟨rfl, HM⟩
  replace HM := Lib.hid HM
  refine ⟨HM.out, ?_⟩
  simp only [List.getElem_toArray, List.getElem_cons_succ, List.getElem_cons_zero, Act.put, List.setIfInBounds_toArray, List.set_cons_zero, List.set_cons_succ]
  refine Steady.phase 20 24 0 (by kernel_rfl) (by as_aux_lemma => kernel_rfl) HM.out ?_
  simp only [List.take_succ_cons, List.take_zero, List.drop_succ_cons, List.drop_zero]
  refine Steady.take ?_ rfl (by intro u hu; go_simp; with_reducible rfl) ?_
  simp only [Act.put, List.setIfInBounds_toArray, List.set_cons_zero, List.set_cons_succ]
  refine Steady.take ?_ rfl (by intro u hu; go_simp; with_reducible rfl) ?_
  simp only [Act.put, List.setIfInBounds_toArray, List.set_cons_zero, List.set_cons_succ]
  refine Steady.take ?_ rfl (by intro u hu; go_simp; with_reducible rfl) ?_
  simp only [Act.put, List.setIfInBounds_toArray, List.set_cons_zero, List.set_cons_succ]
  refine Steady.take ?_ rfl (by intro u hu; go_simp; with_reducible rfl) ?_
  simp only [Act.put, List.setIfInBounds_toArray, List.set_cons_zero, List.set_cons_succ]
  refine Steady.nil ?_
  clear HM
  intro w7 HM
  replace HM := Lib.hid HM
  refine wpAnyH_done (by kernel_rfl) ?_ 0

  go_wp2
  go_ret2
  exact ⟨rfl, HM.out.below⟩
end Go.Proofs.YtlinpbmglcjkkaaDoor.LetA
