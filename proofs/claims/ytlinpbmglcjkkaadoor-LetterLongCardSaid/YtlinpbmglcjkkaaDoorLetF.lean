/-
  Long and Fits of package letter, of a value of each type: how many bytes it has, and whether it fits; all memory that was there is left as it was. Conditions: as XLetA's; no list has more than 300 elements, no text of a list more than 6100 bytes; a list of texts is read in memory.
-/
import Derived.Test.YtlinpbmglcjkkaaDoorLetD
namespace Go.Proofs.YtlinpbmglcjkkaaDoor.LetA
open Go.RowKit Mur Prt Lanes Cod Let Knw
open Ros (glue)
set_option maxRecDepth 100000
set_option linter.unusedSimpArgs false

def texS (zs : List ByteArray) : Nat := (zs.map fun z => 2 + z.size).sum
theorem texS_bl (zs : List ByteArray) : Let.texts (RLet.bl zs) = texS zs := by
  rw [Let.texts, RLet.bl, List.map_map]
  rfl
theorem texS_most (zs : List ByteArray) (hz : ∀ z ∈ zs, z.size ≤ 6100) : texS zs ≤ 6102 * zs.length := by
  induction zs with
  | nil => exact Nat.le_refl _
  | cons z l ih =>
    have h1 := hz z List.mem_cons_self
    have h2 := ih fun y hy => hz y (List.mem_cons_of_mem _ hy)
    have h3 : texS (z :: l) = (2 + z.size) + texS l := rfl
    rw [h3, List.length_cons]
    omega
theorem strL_eq (z : ByteArray) (h : z.size ≤ 1000000000000) : strL z = ((2 + z.size : Nat) : Int) := by
  rw [strL, IntWalk.wrap64_in _ (by omega)]
  omega
theorem numsL_eq (n : Nat) (h : n ≤ 1000000) : numsL n = ((1 + 5 * n : Nat) : Int) := by
  rw [numsL, IntWalk.wrap64_in (5 * (n : Int)) (by omega), IntWalk.wrap64_in _ (by omega)]
  omega
theorem fold_eq (zs : List ByteArray) (a : Nat) (h : a + texS zs ≤ 1000000000000) : zs.foldl (fun a z => wrap64 (a + strL z)) (a : Int) = ((a + texS zs : Nat) : Int) := by
  induction zs generalizing a with
  | nil => rfl
  | cons z l ih =>
    have h3 : texS (z :: l) = (2 + z.size) + texS l := rfl
    rw [h3] at h ⊢
    rw [List.foldl_cons, strL_eq z (by omega), show wrap64 ((a : Int) + ((2 + z.size : Nat) : Int)) = ((a + (2 + z.size) : Nat) : Int) from by rw [IntWalk.wrap64_in _ (by omega)]; omega, ih _ (by omega)]
    omega
theorem strsL_eq (zs : List ByteArray) (n : Nat) (hn : zs.length = n) (hn2 : n ≤ 300) (hz : ∀ z ∈ zs, z.size ≤ 6100) : strsL zs = ((1 + texS zs : Nat) : Int) ∧ texS zs ≤ 2000000 := by
  have h := texS_most zs hz
  exact ⟨fold_eq zs 1 (by omega), by omega⟩
theorem cellFunc : Hold.TyCell Tryd.prog 51 := ⟨_, Tryd.underlying51, rfl, by kernel_rfl⟩
theorem range_below {w u : World} {g : Nat} {cs : List Value} (h : w.rangeAt g 0 cs) (hg : g < w.heap.size) (hb : Below w.heap.size w u) : u.rangeAt g 0 cs := fun j v hv => (hb.cell (p := ⟨g, 0 + j, none⟩) hg).trans (h j v hv)

set_option maxHeartbeats 800000 in
theorem longCast_any (b : ByteArray) (L : Int) (w : World) (hL : L = (long (.cast b.data.toList) : Nat)) (h1 : b.size ≤ 1000000000000) :
    Calls Tryd.prog 7 #[.iface 27 (.agg #[.string b])] w fun e w' => e = .returned (.int .i64 L) ∧ Below w.heap.size w w' := by
  have hLK : L = strL b := by rw [hL]; exact (strL_eq b h1).symm
  have RK := Lib.hid (fun u (_ : Below w.heap.size w u) => Knw.knownCast_any b L u hLK)
  clear hL hLK h1
  have f1 := field1
  go_enter Tryd.func7, Tryd.ntmps7
  go_wp2_with ((first
    | (with_reducible (refine (RK.out _ (Below.refl _ _)).mono ?_; rintro e w1 ⟨g, rfl, hw, hg, hc, hb⟩; have HC := Lib.hid (fun (u : World) (hu : Below w1.heap.size w1 u) => range_below hc hg hu); have HB := Lib.hid hb; have HM := Lib.hid (Hold.Hld.start w1); clear hw hg hc hb RK))))
  go_ret
  exact ⟨rfl, HB.out⟩

set_option maxHeartbeats 1600000 in
theorem fitsCast_any (b : ByteArray) (X : ByteArray) (E L : Int) (B : Bool) (w : World) (hX : X = layX (str b.data.toList)) (hE : E = errV (str b.data.toList)) (hL : L = (long (.cast b.data.toList) : Nat)) (hsame : E = 0 → L = (X.size : Int)) (hB : B = (decide (E = 0) && decide (X.size ≤ 6000))) (h1 : b.size ≤ 1000000000000) :
    Calls Tryd.prog 8 #[.iface 27 (.agg #[.string b])] w fun e w' => e = .returned (.bool B) ∧ Below w.heap.size w w' := by
  have hLK : L = strL b := by rw [hL]; exact (strL_eq b h1).symm
  have RK := Lib.hid (fun u (_ : Below w.heap.size w u) => Knw.knownCast_any b L u hLK)
  have RL := Lib.hid (fun g u (_ : Below w.heap.size w u) (hc : u.rangeAt g 0 [.string b]) => Knw.laysCast_any b X E g u hX hE hc (by omega))
  clear hX hE hL hLK h1
  by_cases hbig : 6000 < L
  · have d1 : decide (6000 < L) = true := decide_eq_true hbig
    obtain rfl : B = false := by
      rw [hB, Bool.and_eq_false_iff]
      by_cases h0 : E = 0
      · exact .inr (decide_eq_false (by have := hsame h0; omega))
      · exact .inl (decide_eq_false h0)
    clear hsame hB hbig RL
    go_enter Tryd.func8, Tryd.ntmps8
    go_wp2_with ((first
      | (with_reducible (refine (RK.out _ (Below.refl _ _)).mono ?_; rintro e w1 ⟨g, rfl, hw, hg, hc, hb⟩; have HC := Lib.hid (fun (u : World) (hu : Below w1.heap.size w1 u) => range_below hc hg hu); have HB := Lib.hid hb; have HM := Lib.hid (Hold.Hld.start w1); clear hw hg hc hb RK))
      | (with_reducible refine Hold.alloc HM.out rfl rfl Knw.zVal Knw.zero_zVal ?_; clear HM; intro b0 w2 HM; simp only [List.nil_append] at HM; replace HM := Lib.hid HM)
      | (refine Hold.store HM.out 0 (v' := [.int .i64 1, .int .i64 L, .func (.func 26) #[] #[.pointer (some ⟨g, 0, none⟩)]]) rfl rfl rfl rfl rfl (by simp [Knw.zVal_len]) (Hold.lay_all rfl) (by simp [Hold.Single, Value.oneCell']) Knw.row_zVal ?_; clear HM; intro w2 HM; simp only [List.set_cons_zero] at HM; replace HM := Lib.hid HM)
      | (with_reducible refine Hold.load1 HM.out 0 (c := .int .i64 L) rfl rfl rfl rfl (rfl) (RLet.cellInt) ?_)))
    go_ret
    exact ⟨rfl, HB.out.trans (HM.out.below.mono HB.out.size)⟩
  · have d1 : decide (6000 < L) = false := decide_eq_false hbig
    obtain rfl : B = (E == 0) := by
      rw [hB, Bool.eq_iff_iff, Bool.and_eq_true, decide_eq_true_iff, decide_eq_true_iff, beq_iff_eq]
      exact ⟨fun h => h.1, fun h => ⟨h, by have := hsame h; omega⟩⟩
    clear hsame hB hbig
    go_enter Tryd.func8, Tryd.ntmps8
    go_wp2_with ((first
      | (with_reducible (refine (RK.out _ (Below.refl _ _)).mono ?_; rintro e w1 ⟨g, rfl, hw, hg, hc, hb⟩; have HC := Lib.hid (fun (u : World) (hu : Below w1.heap.size w1 u) => range_below hc hg hu); have HB := Lib.hid hb; have HM := Lib.hid (Hold.Hld.start w1); clear hw hg hc hb RK))
      | (with_reducible refine Hold.alloc HM.out rfl rfl Knw.zVal Knw.zero_zVal ?_; clear HM; intro b0 w2 HM; simp only [List.nil_append] at HM; replace HM := Lib.hid HM)
      | (refine Hold.store HM.out 0 (v' := [.int .i64 1, .int .i64 L, .func (.func 26) #[] #[.pointer (some ⟨g, 0, none⟩)]]) rfl rfl rfl rfl rfl (by simp [Knw.zVal_len]) (Hold.lay_all rfl) (by simp [Hold.Single, Value.oneCell']) Knw.row_zVal ?_; clear HM; intro w2 HM; simp only [List.set_cons_zero] at HM; replace HM := Lib.hid HM)
      | (with_reducible refine Hold.load1 HM.out 0 (c := .int .i64 L) rfl rfl rfl rfl (rfl) (RLet.cellInt) ?_)
      | (with_reducible refine Hold.load1 HM.out 0 (c := .func (.func 26) #[] #[.pointer (some ⟨g, 0, none⟩)]) rfl rfl rfl rfl (rfl) (cellFunc) ?_)
      | (with_reducible (refine (RL.out _ _ (HB.out.trans (HM.out.below.mono HB.out.size)) (HC.out _ HM.out.below)).mono ?_; rintro e w3 ⟨rfl, hb⟩; replace HM := Lib.hid (HM.out.next hb); clear hb))))
    go_ret
    exact ⟨rfl, HB.out.trans (HM.out.below.mono HB.out.size)⟩

set_option maxHeartbeats 800000 in
theorem longList_any (zs : List Int) (n : Nat) (a : Option Addr) (cap : Nat) (z : Int) (L : Int) (w : World) (hL : L = (long (.list zs z) : Nat)) (hn : zs.length = n) (hn2 : n ≤ 1000000) :
    Calls Tryd.prog 7 #[.iface 29 (.agg #[.slice a n cap, .int .i64 z])] w fun e w' => e = .returned (.int .i64 L) ∧ Below w.heap.size w w' := by
  have hLK : L = wrap64 (numsL n + 5) := by rw [hL, numsL_eq n hn2, IntWalk.wrap64_in _ (by omega)]; show ((6 + 5 * zs.length : Nat) : Int) = _; rw [hn]; omega
  have RK := Lib.hid (fun u (_ : Below w.heap.size w u) => Knw.knownList_any n a cap z L u hLK)
  clear hL hLK hn hn2
  have f1 := field1
  go_enter Tryd.func7, Tryd.ntmps7
  go_wp2_with ((first
    | (with_reducible (refine (RK.out _ (Below.refl _ _)).mono ?_; rintro e w1 ⟨g, rfl, hw, hg, hc, hb⟩; have HC := Lib.hid (fun (u : World) (hu : Below w1.heap.size w1 u) => range_below hc hg hu); have HB := Lib.hid hb; have HM := Lib.hid (Hold.Hld.start w1); clear hw hg hc hb RK))))
  go_ret
  exact ⟨rfl, HB.out⟩

set_option maxHeartbeats 1600000 in
theorem fitsList_any (zs : List Int) (n : Nat) (a : Option Addr) (cap : Nat) (z : Int) (X : ByteArray) (E L : Int) (B : Bool) (w : World) (hX : X = layX (layList zs z)) (hE : E = errV (layList zs z)) (hL : L = (long (.list zs z) : Nat)) (hsame : E = 0 → L = (X.size : Int)) (hB : B = (decide (E = 0) && decide (X.size ≤ 6000))) (hr : IntsR w a zs) (hn : zs.length = n) (hn2 : n ≤ 1000000) (hz : ∀ z ∈ zs, -9223372036854775808 ≤ z ∧ z ≤ 9223372036854775807) (h1 : -9223372036854775808 ≤ z) (h2 : z ≤ 9223372036854775807) :
    Calls Tryd.prog 8 #[.iface 29 (.agg #[.slice a n cap, .int .i64 z])] w fun e w' => e = .returned (.bool B) ∧ Below w.heap.size w w' := by
  have hLK : L = wrap64 (numsL n + 5) := by rw [hL, numsL_eq n hn2, IntWalk.wrap64_in _ (by omega)]; show ((6 + 5 * zs.length : Nat) : Int) = _; rw [hn]; omega
  have RK := Lib.hid (fun u (_ : Below w.heap.size w u) => Knw.knownList_any n a cap z L u hLK)
  have RL := Lib.hid (fun g u (hu : Below w.heap.size w u) (hc : u.rangeAt g 0 [.slice a n cap, .int .i64 z]) => Knw.laysList_any zs n a cap z X E g u hX hE hc (hr.below hu) hn hn2 hz h1 h2)
  clear hX hE hL hLK hr hn hz h1 h2
  by_cases hbig : 6000 < L
  · have d1 : decide (6000 < L) = true := decide_eq_true hbig
    obtain rfl : B = false := by
      rw [hB, Bool.and_eq_false_iff]
      by_cases h0 : E = 0
      · exact .inr (decide_eq_false (by have := hsame h0; omega))
      · exact .inl (decide_eq_false h0)
    clear hsame hB hbig RL
    go_enter Tryd.func8, Tryd.ntmps8
    go_wp2_with ((first
      | (with_reducible (refine (RK.out _ (Below.refl _ _)).mono ?_; rintro e w1 ⟨g, rfl, hw, hg, hc, hb⟩; have HC := Lib.hid (fun (u : World) (hu : Below w1.heap.size w1 u) => range_below hc hg hu); have HB := Lib.hid hb; have HM := Lib.hid (Hold.Hld.start w1); clear hw hg hc hb RK))
      | (with_reducible refine Hold.alloc HM.out rfl rfl Knw.zVal Knw.zero_zVal ?_; clear HM; intro b0 w2 HM; simp only [List.nil_append] at HM; replace HM := Lib.hid HM)
      | (refine Hold.store HM.out 0 (v' := [.int .i64 2, .int .i64 L, .func (.func 29) #[] #[.pointer (some ⟨g, 0, none⟩)]]) rfl rfl rfl rfl rfl (by simp [Knw.zVal_len]) (Hold.lay_all rfl) (by simp [Hold.Single, Value.oneCell']) Knw.row_zVal ?_; clear HM; intro w2 HM; simp only [List.set_cons_zero] at HM; replace HM := Lib.hid HM)
      | (with_reducible refine Hold.load1 HM.out 0 (c := .int .i64 L) rfl rfl rfl rfl (rfl) (RLet.cellInt) ?_)))
    go_ret
    exact ⟨rfl, HB.out.trans (HM.out.below.mono HB.out.size)⟩
  · have d1 : decide (6000 < L) = false := decide_eq_false hbig
    obtain rfl : B = (E == 0) := by
      rw [hB, Bool.eq_iff_iff, Bool.and_eq_true, decide_eq_true_iff, decide_eq_true_iff, beq_iff_eq]
      exact ⟨fun h => h.1, fun h => ⟨h, by have := hsame h; omega⟩⟩
    clear hsame hB hbig
    go_enter Tryd.func8, Tryd.ntmps8
    go_wp2_with ((first
      | (with_reducible (refine (RK.out _ (Below.refl _ _)).mono ?_; rintro e w1 ⟨g, rfl, hw, hg, hc, hb⟩; have HC := Lib.hid (fun (u : World) (hu : Below w1.heap.size w1 u) => range_below hc hg hu); have HB := Lib.hid hb; have HM := Lib.hid (Hold.Hld.start w1); clear hw hg hc hb RK))
      | (with_reducible refine Hold.alloc HM.out rfl rfl Knw.zVal Knw.zero_zVal ?_; clear HM; intro b0 w2 HM; simp only [List.nil_append] at HM; replace HM := Lib.hid HM)
      | (refine Hold.store HM.out 0 (v' := [.int .i64 2, .int .i64 L, .func (.func 29) #[] #[.pointer (some ⟨g, 0, none⟩)]]) rfl rfl rfl rfl rfl (by simp [Knw.zVal_len]) (Hold.lay_all rfl) (by simp [Hold.Single, Value.oneCell']) Knw.row_zVal ?_; clear HM; intro w2 HM; simp only [List.set_cons_zero] at HM; replace HM := Lib.hid HM)
      | (with_reducible refine Hold.load1 HM.out 0 (c := .int .i64 L) rfl rfl rfl rfl (rfl) (RLet.cellInt) ?_)
      | (with_reducible refine Hold.load1 HM.out 0 (c := .func (.func 29) #[] #[.pointer (some ⟨g, 0, none⟩)]) rfl rfl rfl rfl (rfl) (cellFunc) ?_)
      | (with_reducible (refine (RL.out _ _ (HB.out.trans (HM.out.below.mono HB.out.size)) (HC.out _ HM.out.below)).mono ?_; rintro e w3 ⟨rfl, hb⟩; replace HM := Lib.hid (HM.out.next hb); clear hb))))
    go_ret
    exact ⟨rfl, HB.out.trans (HM.out.below.mono HB.out.size)⟩

set_option maxHeartbeats 800000 in
theorem longPledge_any (d : ByteArray) (L : Int) (w : World) (hL : L = (long (.pledge d.data.toList) : Nat))  :
    Calls Tryd.prog 7 #[.iface 31 (.agg #[.string d])] w fun e w' => e = .returned (.int .i64 L) ∧ Below w.heap.size w w' := by
  have hLK : L = (d.size : Int) := by rw [hL]; rfl
  have RK := Lib.hid (fun u (_ : Below w.heap.size w u) => Knw.knownPledge_any d L u hLK)
  clear hL hLK 
  have f1 := field1
  go_enter Tryd.func7, Tryd.ntmps7
  go_wp2_with ((first
    | (with_reducible (refine (RK.out _ (Below.refl _ _)).mono ?_; rintro e w1 ⟨g, rfl, hw, hg, hc, hb⟩; have HC := Lib.hid (fun (u : World) (hu : Below w1.heap.size w1 u) => range_below hc hg hu); have HB := Lib.hid hb; have HM := Lib.hid (Hold.Hld.start w1); clear hw hg hc hb RK))))
  go_ret
  exact ⟨rfl, HB.out⟩

set_option maxHeartbeats 1600000 in
theorem fitsPledge_any (d : ByteArray) (X : ByteArray) (E L : Int) (B : Bool) (w : World) (hX : X = layX (layPledge d.data.toList)) (hE : E = errV (layPledge d.data.toList)) (hL : L = (long (.pledge d.data.toList) : Nat)) (hsame : E = 0 → L = (X.size : Int)) (hB : B = (decide (E = 0) && decide (X.size ≤ 6000)))  :
    Calls Tryd.prog 8 #[.iface 31 (.agg #[.string d])] w fun e w' => e = .returned (.bool B) ∧ Below w.heap.size w w' := by
  have hLK : L = (d.size : Int) := by rw [hL]; rfl
  have RK := Lib.hid (fun u (_ : Below w.heap.size w u) => Knw.knownPledge_any d L u hLK)
  have RL := Lib.hid (fun g u (_ : Below w.heap.size w u) (hc : u.rangeAt g 0 [.string d]) => Knw.laysPledge_any d X E g u hX hE hc )
  clear hX hE hL hLK 
  by_cases hbig : 6000 < L
  · have d1 : decide (6000 < L) = true := decide_eq_true hbig
    obtain rfl : B = false := by
      rw [hB, Bool.and_eq_false_iff]
      by_cases h0 : E = 0
      · exact .inr (decide_eq_false (by have := hsame h0; omega))
      · exact .inl (decide_eq_false h0)
    clear hsame hB hbig RL
    go_enter Tryd.func8, Tryd.ntmps8
    go_wp2_with ((first
      | (with_reducible (refine (RK.out _ (Below.refl _ _)).mono ?_; rintro e w1 ⟨g, rfl, hw, hg, hc, hb⟩; have HC := Lib.hid (fun (u : World) (hu : Below w1.heap.size w1 u) => range_below hc hg hu); have HB := Lib.hid hb; have HM := Lib.hid (Hold.Hld.start w1); clear hw hg hc hb RK))
      | (with_reducible refine Hold.alloc HM.out rfl rfl Knw.zVal Knw.zero_zVal ?_; clear HM; intro b0 w2 HM; simp only [List.nil_append] at HM; replace HM := Lib.hid HM)
      | (refine Hold.store HM.out 0 (v' := [.int .i64 3, .int .i64 L, .func (.func 31) #[] #[.pointer (some ⟨g, 0, none⟩)]]) rfl rfl rfl rfl rfl (by simp [Knw.zVal_len]) (Hold.lay_all rfl) (by simp [Hold.Single, Value.oneCell']) Knw.row_zVal ?_; clear HM; intro w2 HM; simp only [List.set_cons_zero] at HM; replace HM := Lib.hid HM)
      | (with_reducible refine Hold.load1 HM.out 0 (c := .int .i64 L) rfl rfl rfl rfl (rfl) (RLet.cellInt) ?_)))
    go_ret
    exact ⟨rfl, HB.out.trans (HM.out.below.mono HB.out.size)⟩
  · have d1 : decide (6000 < L) = false := decide_eq_false hbig
    obtain rfl : B = (E == 0) := by
      rw [hB, Bool.eq_iff_iff, Bool.and_eq_true, decide_eq_true_iff, decide_eq_true_iff, beq_iff_eq]
      exact ⟨fun h => h.1, fun h => ⟨h, by have := hsame h; omega⟩⟩
    clear hsame hB hbig
    go_enter Tryd.func8, Tryd.ntmps8
    go_wp2_with ((first
      | (with_reducible (refine (RK.out _ (Below.refl _ _)).mono ?_; rintro e w1 ⟨g, rfl, hw, hg, hc, hb⟩; have HC := Lib.hid (fun (u : World) (hu : Below w1.heap.size w1 u) => range_below hc hg hu); have HB := Lib.hid hb; have HM := Lib.hid (Hold.Hld.start w1); clear hw hg hc hb RK))
      | (with_reducible refine Hold.alloc HM.out rfl rfl Knw.zVal Knw.zero_zVal ?_; clear HM; intro b0 w2 HM; simp only [List.nil_append] at HM; replace HM := Lib.hid HM)
      | (refine Hold.store HM.out 0 (v' := [.int .i64 3, .int .i64 L, .func (.func 31) #[] #[.pointer (some ⟨g, 0, none⟩)]]) rfl rfl rfl rfl rfl (by simp [Knw.zVal_len]) (Hold.lay_all rfl) (by simp [Hold.Single, Value.oneCell']) Knw.row_zVal ?_; clear HM; intro w2 HM; simp only [List.set_cons_zero] at HM; replace HM := Lib.hid HM)
      | (with_reducible refine Hold.load1 HM.out 0 (c := .int .i64 L) rfl rfl rfl rfl (rfl) (RLet.cellInt) ?_)
      | (with_reducible refine Hold.load1 HM.out 0 (c := .func (.func 31) #[] #[.pointer (some ⟨g, 0, none⟩)]) rfl rfl rfl rfl (rfl) (cellFunc) ?_)
      | (with_reducible (refine (RL.out _ _ (HB.out.trans (HM.out.below.mono HB.out.size)) (HC.out _ HM.out.below)).mono ?_; rintro e w3 ⟨rfl, hb⟩; replace HM := Lib.hid (HM.out.next hb); clear hb))))
    go_ret
    exact ⟨rfl, HB.out.trans (HM.out.below.mono HB.out.size)⟩

set_option maxHeartbeats 800000 in
theorem longShare_any (b : ByteArray) (zs : List ByteArray) (n : Nat) (a : Option Addr) (cap : Nat) (L : Int) (w : World) (hL : L = (long (.share b.data.toList (RLet.bl zs)) : Nat)) (hr : StrsR w a zs) (hn : zs.length = n) (hn2 : n ≤ 300) (hz : ∀ z ∈ zs, z.size ≤ 6100) (h1 : b.size ≤ 1000000000000) :
    Calls Tryd.prog 7 #[.iface 33 (.agg #[.string b, .slice a n cap])] w fun e w' => e = .returned (.int .i64 L) ∧ Below w.heap.size w w' := by
  have hLK : L = wrap64 (strL b + strsL zs) := by have h3 := strsL_eq zs n hn hn2 hz; rw [hL, strL_eq b h1, h3.1, IntWalk.wrap64_in _ (by omega)]; show ((3 + b.size + Let.texts (RLet.bl zs) : Nat) : Int) = _; rw [texS_bl]; omega
  have RK := Lib.hid (fun u (hu : Below w.heap.size w u) => Knw.knownShare_any b zs n a cap L u hLK (hr.below hu) hn (by omega))
  clear hL hLK hr hn hz h1
  have f1 := field1
  go_enter Tryd.func7, Tryd.ntmps7
  go_wp2_with ((first
    | (with_reducible (refine (RK.out _ (Below.refl _ _)).mono ?_; rintro e w1 ⟨g, rfl, hw, hg, hc, hb⟩; have HC := Lib.hid (fun (u : World) (hu : Below w1.heap.size w1 u) => range_below hc hg hu); have HB := Lib.hid hb; have HM := Lib.hid (Hold.Hld.start w1); clear hw hg hc hb RK))))
  go_ret
  exact ⟨rfl, HB.out⟩

set_option maxHeartbeats 1600000 in
theorem fitsShare_any (b : ByteArray) (zs : List ByteArray) (n : Nat) (a : Option Addr) (cap : Nat) (X : ByteArray) (E L : Int) (B : Bool) (w : World) (hX : X = layX (glue (str b.data.toList) (layAll strB zs))) (hE : E = errV (glue (str b.data.toList) (layAll strB zs))) (hL : L = (long (.share b.data.toList (RLet.bl zs)) : Nat)) (hsame : E = 0 → L = (X.size : Int)) (hB : B = (decide (E = 0) && decide (X.size ≤ 6000))) (hr : StrsR w a zs) (hn : zs.length = n) (hn2 : n ≤ 300) (hz : ∀ z ∈ zs, z.size ≤ 6100) (h1 : b.size ≤ 1000000000000) :
    Calls Tryd.prog 8 #[.iface 33 (.agg #[.string b, .slice a n cap])] w fun e w' => e = .returned (.bool B) ∧ Below w.heap.size w w' := by
  have hLK : L = wrap64 (strL b + strsL zs) := by have h3 := strsL_eq zs n hn hn2 hz; rw [hL, strL_eq b h1, h3.1, IntWalk.wrap64_in _ (by omega)]; show ((3 + b.size + Let.texts (RLet.bl zs) : Nat) : Int) = _; rw [texS_bl]; omega
  have RK := Lib.hid (fun u (hu : Below w.heap.size w u) => Knw.knownShare_any b zs n a cap L u hLK (hr.below hu) hn (by omega))
  have RL := Lib.hid (fun g u (hu : Below w.heap.size w u) (hc : u.rangeAt g 0 [.string b, .slice a n cap]) => Knw.laysShare_any b zs n a cap X E g u hX hE hc (hr.below hu) hn (by omega) (fun z hz2 => Nat.le_trans (hz z hz2) (by omega)) (by omega))
  clear hX hE hL hLK hr hn hz h1
  by_cases hbig : 6000 < L
  · have d1 : decide (6000 < L) = true := decide_eq_true hbig
    obtain rfl : B = false := by
      rw [hB, Bool.and_eq_false_iff]
      by_cases h0 : E = 0
      · exact .inr (decide_eq_false (by have := hsame h0; omega))
      · exact .inl (decide_eq_false h0)
    clear hsame hB hbig RL
    go_enter Tryd.func8, Tryd.ntmps8
    go_wp2_with ((first
      | (with_reducible (refine (RK.out _ (Below.refl _ _)).mono ?_; rintro e w1 ⟨g, rfl, hw, hg, hc, hb⟩; have HC := Lib.hid (fun (u : World) (hu : Below w1.heap.size w1 u) => range_below hc hg hu); have HB := Lib.hid hb; have HM := Lib.hid (Hold.Hld.start w1); clear hw hg hc hb RK))
      | (with_reducible refine Hold.alloc HM.out rfl rfl Knw.zVal Knw.zero_zVal ?_; clear HM; intro b0 w2 HM; simp only [List.nil_append] at HM; replace HM := Lib.hid HM)
      | (refine Hold.store HM.out 0 (v' := [.int .i64 4, .int .i64 L, .func (.func 34) #[] #[.pointer (some ⟨g, 0, none⟩)]]) rfl rfl rfl rfl rfl (by simp [Knw.zVal_len]) (Hold.lay_all rfl) (by simp [Hold.Single, Value.oneCell']) Knw.row_zVal ?_; clear HM; intro w2 HM; simp only [List.set_cons_zero] at HM; replace HM := Lib.hid HM)
      | (with_reducible refine Hold.load1 HM.out 0 (c := .int .i64 L) rfl rfl rfl rfl (rfl) (RLet.cellInt) ?_)))
    go_ret
    exact ⟨rfl, HB.out.trans (HM.out.below.mono HB.out.size)⟩
  · have d1 : decide (6000 < L) = false := decide_eq_false hbig
    obtain rfl : B = (E == 0) := by
      rw [hB, Bool.eq_iff_iff, Bool.and_eq_true, decide_eq_true_iff, decide_eq_true_iff, beq_iff_eq]
      exact ⟨fun h => h.1, fun h => ⟨h, by have := hsame h; omega⟩⟩
    clear hsame hB hbig
    go_enter Tryd.func8, Tryd.ntmps8
    go_wp2_with ((first
      | (with_reducible (refine (RK.out _ (Below.refl _ _)).mono ?_; rintro e w1 ⟨g, rfl, hw, hg, hc, hb⟩; have HC := Lib.hid (fun (u : World) (hu : Below w1.heap.size w1 u) => range_below hc hg hu); have HB := Lib.hid hb; have HM := Lib.hid (Hold.Hld.start w1); clear hw hg hc hb RK))
      | (with_reducible refine Hold.alloc HM.out rfl rfl Knw.zVal Knw.zero_zVal ?_; clear HM; intro b0 w2 HM; simp only [List.nil_append] at HM; replace HM := Lib.hid HM)
      | (refine Hold.store HM.out 0 (v' := [.int .i64 4, .int .i64 L, .func (.func 34) #[] #[.pointer (some ⟨g, 0, none⟩)]]) rfl rfl rfl rfl rfl (by simp [Knw.zVal_len]) (Hold.lay_all rfl) (by simp [Hold.Single, Value.oneCell']) Knw.row_zVal ?_; clear HM; intro w2 HM; simp only [List.set_cons_zero] at HM; replace HM := Lib.hid HM)
      | (with_reducible refine Hold.load1 HM.out 0 (c := .int .i64 L) rfl rfl rfl rfl (rfl) (RLet.cellInt) ?_)
      | (with_reducible refine Hold.load1 HM.out 0 (c := .func (.func 34) #[] #[.pointer (some ⟨g, 0, none⟩)]) rfl rfl rfl rfl (rfl) (cellFunc) ?_)
      | (with_reducible (refine (RL.out _ _ (HB.out.trans (HM.out.below.mono HB.out.size)) (HC.out _ HM.out.below)).mono ?_; rintro e w3 ⟨rfl, hb⟩; replace HM := Lib.hid (HM.out.next hb); clear hb))))
    go_ret
    exact ⟨rfl, HB.out.trans (HM.out.below.mono HB.out.size)⟩

set_option maxHeartbeats 800000 in
theorem longCert_any (b : ByteArray) (zs : List Int) (n : Nat) (a : Option Addr) (cap : Nat) (z : Int) (L : Int) (w : World) (hL : L = (long (.cert b.data.toList zs z) : Nat)) (hn : zs.length = n) (hn2 : n ≤ 1000000) (h1 : b.size ≤ 1000000000000) :
    Calls Tryd.prog 7 #[.iface 35 (.agg #[.string b, .slice a n cap, .int .i64 z])] w fun e w' => e = .returned (.int .i64 L) ∧ Below w.heap.size w w' := by
  have hLK : L = wrap64 (wrap64 (strL b + numsL n) + 5) := by rw [hL, strL_eq b h1, numsL_eq n hn2, IntWalk.wrap64_in (((2 + b.size : Nat) : Int) + ((1 + 5 * n : Nat) : Int)) (by omega), IntWalk.wrap64_in _ (by omega)]; show ((8 + b.size + 5 * zs.length : Nat) : Int) = _; rw [hn]; omega
  have RK := Lib.hid (fun u (_ : Below w.heap.size w u) => Knw.knownCert_any b n a cap z L u hLK)
  clear hL hLK hn hn2 h1
  have f1 := field1
  go_enter Tryd.func7, Tryd.ntmps7
  go_wp2_with ((first
    | (with_reducible (refine (RK.out _ (Below.refl _ _)).mono ?_; rintro e w1 ⟨g, rfl, hw, hg, hc, hb⟩; have HC := Lib.hid (fun (u : World) (hu : Below w1.heap.size w1 u) => range_below hc hg hu); have HB := Lib.hid hb; have HM := Lib.hid (Hold.Hld.start w1); clear hw hg hc hb RK))))
  go_ret
  exact ⟨rfl, HB.out⟩

set_option maxHeartbeats 1600000 in
theorem fitsCert_any (b : ByteArray) (zs : List Int) (n : Nat) (a : Option Addr) (cap : Nat) (z : Int) (X : ByteArray) (E L : Int) (B : Bool) (w : World) (hX : X = layX (layCert b.data.toList zs z)) (hE : E = errV (layCert b.data.toList zs z)) (hL : L = (long (.cert b.data.toList zs z) : Nat)) (hsame : E = 0 → L = (X.size : Int)) (hB : B = (decide (E = 0) && decide (X.size ≤ 6000))) (hr : IntsR w a zs) (hn : zs.length = n) (hn2 : n ≤ 1000000) (hz : ∀ z ∈ zs, -9223372036854775808 ≤ z ∧ z ≤ 9223372036854775807) (h1 : -9223372036854775808 ≤ z) (h2 : z ≤ 9223372036854775807) (h3 : b.size ≤ 1000000000000) :
    Calls Tryd.prog 8 #[.iface 35 (.agg #[.string b, .slice a n cap, .int .i64 z])] w fun e w' => e = .returned (.bool B) ∧ Below w.heap.size w w' := by
  have hLK : L = wrap64 (wrap64 (strL b + numsL n) + 5) := by rw [hL, strL_eq b h3, numsL_eq n hn2, IntWalk.wrap64_in (((2 + b.size : Nat) : Int) + ((1 + 5 * n : Nat) : Int)) (by omega), IntWalk.wrap64_in _ (by omega)]; show ((8 + b.size + 5 * zs.length : Nat) : Int) = _; rw [hn]; omega
  have RK := Lib.hid (fun u (_ : Below w.heap.size w u) => Knw.knownCert_any b n a cap z L u hLK)
  have RL := Lib.hid (fun g u (hu : Below w.heap.size w u) (hc : u.rangeAt g 0 [.string b, .slice a n cap, .int .i64 z]) => Knw.laysCert_any b zs n a cap z X E g u hX hE hc (hr.below hu) hn hn2 hz h1 h2 (by omega))
  clear hX hE hL hLK hr hn hz h1 h2 h3
  by_cases hbig : 6000 < L
  · have d1 : decide (6000 < L) = true := decide_eq_true hbig
    obtain rfl : B = false := by
      rw [hB, Bool.and_eq_false_iff]
      by_cases h0 : E = 0
      · exact .inr (decide_eq_false (by have := hsame h0; omega))
      · exact .inl (decide_eq_false h0)
    clear hsame hB hbig RL
    go_enter Tryd.func8, Tryd.ntmps8
    go_wp2_with ((first
      | (with_reducible (refine (RK.out _ (Below.refl _ _)).mono ?_; rintro e w1 ⟨g, rfl, hw, hg, hc, hb⟩; have HC := Lib.hid (fun (u : World) (hu : Below w1.heap.size w1 u) => range_below hc hg hu); have HB := Lib.hid hb; have HM := Lib.hid (Hold.Hld.start w1); clear hw hg hc hb RK))
      | (with_reducible refine Hold.alloc HM.out rfl rfl Knw.zVal Knw.zero_zVal ?_; clear HM; intro b0 w2 HM; simp only [List.nil_append] at HM; replace HM := Lib.hid HM)
      | (refine Hold.store HM.out 0 (v' := [.int .i64 5, .int .i64 L, .func (.func 36) #[] #[.pointer (some ⟨g, 0, none⟩)]]) rfl rfl rfl rfl rfl (by simp [Knw.zVal_len]) (Hold.lay_all rfl) (by simp [Hold.Single, Value.oneCell']) Knw.row_zVal ?_; clear HM; intro w2 HM; simp only [List.set_cons_zero] at HM; replace HM := Lib.hid HM)
      | (with_reducible refine Hold.load1 HM.out 0 (c := .int .i64 L) rfl rfl rfl rfl (rfl) (RLet.cellInt) ?_)))
    go_ret
    exact ⟨rfl, HB.out.trans (HM.out.below.mono HB.out.size)⟩
  · have d1 : decide (6000 < L) = false := decide_eq_false hbig
    obtain rfl : B = (E == 0) := by
      rw [hB, Bool.eq_iff_iff, Bool.and_eq_true, decide_eq_true_iff, decide_eq_true_iff, beq_iff_eq]
      exact ⟨fun h => h.1, fun h => ⟨h, by have := hsame h; omega⟩⟩
    clear hsame hB hbig
    go_enter Tryd.func8, Tryd.ntmps8
    go_wp2_with ((first
      | (with_reducible (refine (RK.out _ (Below.refl _ _)).mono ?_; rintro e w1 ⟨g, rfl, hw, hg, hc, hb⟩; have HC := Lib.hid (fun (u : World) (hu : Below w1.heap.size w1 u) => range_below hc hg hu); have HB := Lib.hid hb; have HM := Lib.hid (Hold.Hld.start w1); clear hw hg hc hb RK))
      | (with_reducible refine Hold.alloc HM.out rfl rfl Knw.zVal Knw.zero_zVal ?_; clear HM; intro b0 w2 HM; simp only [List.nil_append] at HM; replace HM := Lib.hid HM)
      | (refine Hold.store HM.out 0 (v' := [.int .i64 5, .int .i64 L, .func (.func 36) #[] #[.pointer (some ⟨g, 0, none⟩)]]) rfl rfl rfl rfl rfl (by simp [Knw.zVal_len]) (Hold.lay_all rfl) (by simp [Hold.Single, Value.oneCell']) Knw.row_zVal ?_; clear HM; intro w2 HM; simp only [List.set_cons_zero] at HM; replace HM := Lib.hid HM)
      | (with_reducible refine Hold.load1 HM.out 0 (c := .int .i64 L) rfl rfl rfl rfl (rfl) (RLet.cellInt) ?_)
      | (with_reducible refine Hold.load1 HM.out 0 (c := .func (.func 36) #[] #[.pointer (some ⟨g, 0, none⟩)]) rfl rfl rfl rfl (rfl) (cellFunc) ?_)
      | (with_reducible (refine (RL.out _ _ (HB.out.trans (HM.out.below.mono HB.out.size)) (HC.out _ HM.out.below)).mono ?_; rintro e w3 ⟨rfl, hb⟩; replace HM := Lib.hid (HM.out.next hb); clear hb))))
    go_ret
    exact ⟨rfl, HB.out.trans (HM.out.below.mono HB.out.size)⟩

set_option maxHeartbeats 800000 in
theorem longOut_any (zs : List ByteArray) (n : Nat) (a : Option Addr) (cap : Nat) (L : Int) (w : World) (hL : L = (long (.out (RLet.bl zs)) : Nat)) (hr : StrsR w a zs) (hn : zs.length = n) (hn2 : n ≤ 300) (hz : ∀ z ∈ zs, z.size ≤ 6100) :
    Calls Tryd.prog 7 #[.iface 37 (.agg #[.slice a n cap])] w fun e w' => e = .returned (.int .i64 L) ∧ Below w.heap.size w w' := by
  have hLK : L = strsL zs := by rw [hL, (strsL_eq zs n hn hn2 hz).1]; show ((1 + Let.texts (RLet.bl zs) : Nat) : Int) = _; rw [texS_bl]
  have RK := Lib.hid (fun u (hu : Below w.heap.size w u) => Knw.knownOut_any zs n a cap L u hLK (hr.below hu) hn (by omega))
  clear hL hLK hr hn hz
  have f1 := field1
  go_enter Tryd.func7, Tryd.ntmps7
  go_wp2_with ((first
    | (with_reducible (refine (RK.out _ (Below.refl _ _)).mono ?_; rintro e w1 ⟨g, rfl, hw, hg, hc, hb⟩; have HC := Lib.hid (fun (u : World) (hu : Below w1.heap.size w1 u) => range_below hc hg hu); have HB := Lib.hid hb; have HM := Lib.hid (Hold.Hld.start w1); clear hw hg hc hb RK))))
  go_ret
  exact ⟨rfl, HB.out⟩

set_option maxHeartbeats 1600000 in
theorem fitsOut_any (zs : List ByteArray) (n : Nat) (a : Option Addr) (cap : Nat) (X : ByteArray) (E L : Int) (B : Bool) (w : World) (hX : X = layX (layAll strB zs)) (hE : E = errV (layAll strB zs)) (hL : L = (long (.out (RLet.bl zs)) : Nat)) (hsame : E = 0 → L = (X.size : Int)) (hB : B = (decide (E = 0) && decide (X.size ≤ 6000))) (hr : StrsR w a zs) (hn : zs.length = n) (hn2 : n ≤ 300) (hz : ∀ z ∈ zs, z.size ≤ 6100) :
    Calls Tryd.prog 8 #[.iface 37 (.agg #[.slice a n cap])] w fun e w' => e = .returned (.bool B) ∧ Below w.heap.size w w' := by
  have hLK : L = strsL zs := by rw [hL, (strsL_eq zs n hn hn2 hz).1]; show ((1 + Let.texts (RLet.bl zs) : Nat) : Int) = _; rw [texS_bl]
  have RK := Lib.hid (fun u (hu : Below w.heap.size w u) => Knw.knownOut_any zs n a cap L u hLK (hr.below hu) hn (by omega))
  have RL := Lib.hid (fun g u (hu : Below w.heap.size w u) (hc : u.rangeAt g 0 [.slice a n cap]) => Knw.laysOut_any zs n a cap X E g u hX hE hc (hr.below hu) hn (by omega) (fun z hz2 => Nat.le_trans (hz z hz2) (by omega)))
  clear hX hE hL hLK hr hn hz
  by_cases hbig : 6000 < L
  · have d1 : decide (6000 < L) = true := decide_eq_true hbig
    obtain rfl : B = false := by
      rw [hB, Bool.and_eq_false_iff]
      by_cases h0 : E = 0
      · exact .inr (decide_eq_false (by have := hsame h0; omega))
      · exact .inl (decide_eq_false h0)
    clear hsame hB hbig RL
    go_enter Tryd.func8, Tryd.ntmps8
    go_wp2_with ((first
      | (with_reducible (refine (RK.out _ (Below.refl _ _)).mono ?_; rintro e w1 ⟨g, rfl, hw, hg, hc, hb⟩; have HC := Lib.hid (fun (u : World) (hu : Below w1.heap.size w1 u) => range_below hc hg hu); have HB := Lib.hid hb; have HM := Lib.hid (Hold.Hld.start w1); clear hw hg hc hb RK))
      | (with_reducible refine Hold.alloc HM.out rfl rfl Knw.zVal Knw.zero_zVal ?_; clear HM; intro b0 w2 HM; simp only [List.nil_append] at HM; replace HM := Lib.hid HM)
      | (refine Hold.store HM.out 0 (v' := [.int .i64 6, .int .i64 L, .func (.func 38) #[] #[.pointer (some ⟨g, 0, none⟩)]]) rfl rfl rfl rfl rfl (by simp [Knw.zVal_len]) (Hold.lay_all rfl) (by simp [Hold.Single, Value.oneCell']) Knw.row_zVal ?_; clear HM; intro w2 HM; simp only [List.set_cons_zero] at HM; replace HM := Lib.hid HM)
      | (with_reducible refine Hold.load1 HM.out 0 (c := .int .i64 L) rfl rfl rfl rfl (rfl) (RLet.cellInt) ?_)))
    go_ret
    exact ⟨rfl, HB.out.trans (HM.out.below.mono HB.out.size)⟩
  · have d1 : decide (6000 < L) = false := decide_eq_false hbig
    obtain rfl : B = (E == 0) := by
      rw [hB, Bool.eq_iff_iff, Bool.and_eq_true, decide_eq_true_iff, decide_eq_true_iff, beq_iff_eq]
      exact ⟨fun h => h.1, fun h => ⟨h, by have := hsame h; omega⟩⟩
    clear hsame hB hbig
    go_enter Tryd.func8, Tryd.ntmps8
    go_wp2_with ((first
      | (with_reducible (refine (RK.out _ (Below.refl _ _)).mono ?_; rintro e w1 ⟨g, rfl, hw, hg, hc, hb⟩; have HC := Lib.hid (fun (u : World) (hu : Below w1.heap.size w1 u) => range_below hc hg hu); have HB := Lib.hid hb; have HM := Lib.hid (Hold.Hld.start w1); clear hw hg hc hb RK))
      | (with_reducible refine Hold.alloc HM.out rfl rfl Knw.zVal Knw.zero_zVal ?_; clear HM; intro b0 w2 HM; simp only [List.nil_append] at HM; replace HM := Lib.hid HM)
      | (refine Hold.store HM.out 0 (v' := [.int .i64 6, .int .i64 L, .func (.func 38) #[] #[.pointer (some ⟨g, 0, none⟩)]]) rfl rfl rfl rfl rfl (by simp [Knw.zVal_len]) (Hold.lay_all rfl) (by simp [Hold.Single, Value.oneCell']) Knw.row_zVal ?_; clear HM; intro w2 HM; simp only [List.set_cons_zero] at HM; replace HM := Lib.hid HM)
      | (with_reducible refine Hold.load1 HM.out 0 (c := .int .i64 L) rfl rfl rfl rfl (rfl) (RLet.cellInt) ?_)
      | (with_reducible refine Hold.load1 HM.out 0 (c := .func (.func 38) #[] #[.pointer (some ⟨g, 0, none⟩)]) rfl rfl rfl rfl (rfl) (cellFunc) ?_)
      | (with_reducible (refine (RL.out _ _ (HB.out.trans (HM.out.below.mono HB.out.size)) (HC.out _ HM.out.below)).mono ?_; rintro e w3 ⟨rfl, hb⟩; replace HM := Lib.hid (HM.out.next hb); clear hb))))
    go_ret
    exact ⟨rfl, HB.out.trans (HM.out.below.mono HB.out.size)⟩

theorem longStr_any (s : ByteArray) (w : World) : Calls Tryd.prog 7 #[.iface 9 (.string s)] w fun e w' => e = .returned (.int .i64 0) ∧ Below w.heap.size w w' := by
  have RK := Lib.hid (fun u => Knw.knownStr_any s u)
  have f1 := field1
  go_enter Tryd.func7, Tryd.ntmps7
  go_wp2_with ((first
    | (with_reducible (refine (RK.out _).mono ?_; rintro e w1 ⟨rfl, hb⟩; have HB := Lib.hid hb; clear hb))))
  go_ret
  exact ⟨rfl, HB.out⟩

theorem fitsStr_any (s : ByteArray) (w : World) : Calls Tryd.prog 8 #[.iface 9 (.string s)] w fun e w' => e = .returned (.bool false) ∧ Below w.heap.size w w' := by
  have RK := Lib.hid (fun u => Knw.knownStr_any s u)
  have RL := Lib.hid Knw.laysNone_any
  go_enter Tryd.func8, Tryd.ntmps8
  go_wp2_with ((first
    | (with_reducible (refine (RK.out _).mono ?_; rintro e w1 ⟨rfl, hb⟩; have HB := Lib.hid hb; have HM := Lib.hid (Hold.Hld.start w1); clear hb))
    | (with_reducible refine Hold.alloc HM.out rfl rfl Knw.zVal Knw.zero_zVal ?_; clear HM; intro b0 w2 HM; simp only [List.nil_append] at HM; replace HM := Lib.hid HM)
    | (refine Hold.store HM.out 0 (v' := [.int .i64 0, .int .i64 0, .func (.func 40) #[] #[]]) rfl rfl rfl rfl rfl (by simp [Knw.zVal_len]) (Hold.lay_all rfl) (by simp [Hold.Single, Value.oneCell']) Knw.row_zVal ?_; clear HM; intro w2 HM; simp only [List.set_cons_zero] at HM; replace HM := Lib.hid HM)
    | (with_reducible refine Hold.load1 HM.out 0 (c := .int .i64 0) rfl rfl rfl rfl (rfl) (RLet.cellInt) ?_)
    | (with_reducible refine Hold.load1 HM.out 0 (c := .func (.func 40) #[] #[]) rfl rfl rfl rfl (rfl) (cellFunc) ?_)
    | (with_reducible (refine (RL.out _).mono ?_; rintro e w3 ⟨rfl, hb⟩; replace HM := Lib.hid (HM.out.next hb); clear hb))))
  go_ret
  exact ⟨rfl, HB.out.trans (HM.out.below.mono HB.out.size)⟩
end Go.Proofs.YtlinpbmglcjkkaaDoor.LetA
