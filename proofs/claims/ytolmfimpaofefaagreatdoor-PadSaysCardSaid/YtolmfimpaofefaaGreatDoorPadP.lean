/-
  kept and Pad of package pad are what the plain mathematics of the text Pad says; all memory that was there is left as it was. Conditions: few of each list, short texts where they are keys, numbers of 64 bits, the listed tables.
-/
import Derived.Test.YtolmfimpaofefaaGreatDoorPadO
import Derived.Test.YtolmfimpaofefaaGreatDoorPadC
import Derived.Test.YtolmfimpaofefaaGreatDoorBkUh
namespace Go.Proofs.YtolmfimpaofefaaGreatDoor.Pad
open Go.RowKit Mur Prt Lanes Tap Bkl Bkm Rec Cel Bkr Bkb
set_option maxRecDepth 100000
set_option linter.unusedSimpArgs false

theorem allocHM {w0 w w' : World} {b : Bk} {v : List Value} {A : Nat → Prop} {m : List Hold.Blk} {n : Nat} {t : TypeId} {z : List Value} (h : BkR w b v (In A m)) (_ : Hold.Hld w0 (m ++ [⟨n, t, z⟩]) w') (hn : w.heap.size ≤ n) (k : Below w.heap.size w w') : BkR w' b v (In A (m ++ [⟨n, t, z⟩])) := h.allocA hn k
theorem tlen (X : ByteArray) : X.data.toList.length = X.size := rfl
theorem used_at {w : World} {b : Bk} {v : List Value} {A : Nat → Prop} {a : Option Addr} {n c : Nat} {l : List C} (h : BkR w b v A) (h5 : v[5]? = some (.slice a n c)) (hl : b.used = l) : CelR w a (ofC l) := by
  obtain ⟨a', n', c', g, _, _, hR, _⟩ := h.at5.lit
  rw [h5] at g
  cases g
  subst hl
  exact hR
theorem begin_length (c s e : Int) (ch : c ≤ 9223372036854775807) (sh : s ≤ 9223372036854775807) (eh : e ≤ 9223372036854775807) : (joined padT [c, s, e]).length ≤ 63 := by
  have := tail_length [c, s, e] (by intro x hx; simp only [List.mem_cons, List.not_mem_nil, or_false] at hx; rcases hx with rfl | rfl | rfl <;> assumption)
  rw [joined, List.length_append]
  simp only [padT, List.length_cons, List.length_nil] at *
  omega
theorem got_mem (l : List C) (n s : List UInt8) (h : get l n = some s) : ∃ c ∈ l, c.2 = s := by
  induction l with
  | nil => cases h
  | cons c l ih =>
    rw [RTap.get_cons] at h
    by_cases e : c.1 = n
    · rw [if_pos e] at h
      exact ⟨c, by simp, Option.some.inj h⟩
    · rw [if_neg e] at h
      obtain ⟨d, hd, hs⟩ := ih h
      exact ⟨d, by simp [hd], hs⟩
theorem pairRow : Hold.TyRow Tryz.prog 36 2 := ⟨_, Tryz.underlying36, rfl, by kernel_rfl⟩
theorem sharedOf_length (b : Bk) (c s e r : Int) (hf : Brief b) (hi : b.ideal = false) : (sharedOf b c s e r).length ≤ 1000 := by
  cases hg : get b.cells (kept c s e r) with
  | some S =>
    rw [(shared_old b c s e r S hg).1]
    obtain ⟨x, hx, rfl⟩ := got_mem _ _ _ hg
    exact hf hi x hx
  | none =>
    rw [(shared_new b c s e r hg).1, tlen]
    have := shared_size b.seed c s e
    omega

set_option maxHeartbeats 3200000 in
theorem kept_fn (A : Nat → Prop) (b b' : Bk) (v : List Value) (c s e r : Int) (BN X : ByteArray) (w : World) (hBN : BN = tx (joined padT [c, s, e])) (hX : X = tx (sharedOf b c s e r)) (hb' : b' = { b with cells := cellsOf b c s e r }) (h : BkR w b v A) (hro : Room b 900) (cl : -9223372036854775808 ≤ c) (ch : c ≤ 9223372036854775807) (sl : -9223372036854775808 ≤ s) (sh : s ≤ 9223372036854775807) (el : -9223372036854775808 ≤ e) (eh : e ≤ 9223372036854775807) (hl : Laid w) :
    Calls Tryz.prog 27 #[.agg v.toArray, .agg #[.int .i64 c, .int .i64 s], .int .i64 e, .string BN] w fun z w' => ∃ v', z = .returned (.tuple #[.string X, .agg v'.toArray]) ∧ BkR w' b' v' (fun k => A k ∨ w.heap.size ≤ k) ∧ Below w.heap.size w w' := by
  obtain ⟨w0, hw0⟩ : ∃ w0, w0 = w := ⟨w, rfl⟩
  subst hw0
  obtain ⟨a, N, cp, h4, hn, hc, hR, -⟩ := h.at4.lit
  have hn2 : N ≤ 900 := by have := hro.cells; omega
  have hnK : (ofC b.cells).length = N := by rw [ofC_length]; exact hn
  have hR' : CelR w0 a (ofC b.cells) := hR
  have hBs : BN.size ≤ 63 := by rw [hBN, tx_long]; exact begin_length c s e ch sh eh
  obtain ⟨KN, hKN⟩ : ∃ K, K = tx (kept c s e r) := ⟨_, rfl⟩
  have hKd : KN.data.toList = kept c s e r := by rw [hKN]
  have hap : (⟨#[115, 104, 97, 114, 101, 100, 32]⟩ : ByteArray) ++ BN = KN := by
    rw [hKN, hBN]
    exact tx_append sharedT _
  have hbig : ¬ 9223372036854775807 < (⟨#[115, 104, 97, 114, 101, 100, 32]⟩ : ByteArray).size + BN.size := by
    show ¬ 9223372036854775807 < 7 + BN.size
    omega
  have HM := Lib.hid (Hold.Hld.start w0)
  have HV := Lib.hid h.start
  have H4 := Lib.hid h4
  have HLEN := Lib.hid h.len
  have HSZ := Lib.hid (fun (u : World) (hu : Below w0.heap.size w0 u) (k : Nat) (hk : u.heap.size ≤ k) => (Or.inr (Nat.le_trans hu.size hk) : A k ∨ w0.heap.size ≤ k))
  cases hg : get b.cells (kept c s e r) with
  | some S =>
    obtain ⟨e1, e2⟩ := shared_old b c s e r S hg
    have hXS : X = tx S := by rw [hX, e1]
    obtain rfl : b' = b := by rw [hb', e2]
    have R1 := Lib.hid (fun u (hu : Below w0.heap.size w0 u) => Tape.get_any (ofC b'.cells) N a cp KN X true u (by rw [toC_ofC, hKd, hg]; exact hXS) (by rw [toC_ofC, hKd, hg]; rfl) (hR'.below hu) hnK (by omega))
    clear hX hb' h hro hl h4 hn hc hR hR' hnK hg e1 e2 hXS hKN hKd hBN hBs cl ch sl sh el eh
    go_enter Tryz.func27, Tryz.ntmps27
    go_upto_region 4 with ((first
      | ((with_reducible refine Hold.boxK (t := 30) HM.out rfl rfl rfl ?_); clear HM; intro bq w hn hb HM; replace HV := Lib.hid (allocHM HV.out HM hn hb); simp only [List.nil_append, List.cons_append] at HM HV; replace HM := Lib.hid HM; clear hn hb)
      | ((with_reducible refine Hold.boxK (t := 36) HM.out rfl rfl rfl ?_); clear HM; intro bp w hn hb HM; replace HV := Lib.hid (allocHM HV.out HM hn hb); simp only [List.nil_append, List.cons_append] at HM HV; replace HM := Lib.hid HM; clear hn hb)
      | ((with_reducible refine Hold.allocK HM.out rfl rfl zeroBk zero_bk ?_); clear HM; intro br w hn hb HM; replace HV := Lib.hid (allocHM HV.out HM hn hb); simp only [List.nil_append, List.cons_append] at HM HV; replace HM := Lib.hid HM; clear hn hb)
      | (with_reducible refine Hold.load1 HM.out 0 (c := .slice a N cp) rfl rfl rfl rfl H4.out cellC ?_)
      | ((with_reducible refine (R1.out _ HM.out.below).mono ?_); rintro e w ⟨rfl, hb⟩; replace HM := Lib.hid (HM.out.next hb); replace HV := Lib.hid (HV.out.below hb); clear hb)))
    refine Steady.region 3 (by kernel_rfl) (by kernel_rfl) (fun u => Below w.heap.size w u) (Below.refl _ _).drew ?_
    simp only [List.take_succ_cons, List.take_zero, List.drop_succ_cons, List.drop_zero]
    refine Steady.take ?_ rfl (by intro u hu; go_simp; with_reducible rfl) ?_
    simp only [Act.put, List.setIfInBounds_toArray, List.set_cons_zero, List.set_cons_succ]
    refine Steady.take (.agg (v).toArray) rfl (fun u hu => Hold.load_run (HM.out.next hu) 0 rfl rfl rfl (Hold.Part.all _) (bkRowOf HV.out.len)) ?_
    simp only [Act.put, List.setIfInBounds_toArray, List.set_cons_zero, List.set_cons_succ]
    refine Steady.take ?_ rfl (by intro u hu; go_simp; with_reducible rfl) ?_
    simp only [Act.put, List.setIfInBounds_toArray, List.set_cons_zero, List.set_cons_succ]
    refine Steady.nil ?_
    intro w1 hb1
    replace HM := Lib.hid (HM.out.next hb1)
    replace HV := Lib.hid (HV.out.below hb1)
    clear hb1
    go_wp2_with ((first
      | ((with_reducible refine Hold.storeK HM.out 2 (v' := v) rfl rfl rfl rfl rfl (bkFits HV.out.len zero_len) (bkLaid HV.out.len zero_len) HV.out.one (bkRowOf HV.out.len) ?_); clear HM; intro w hbt HM; simp only [List.set_cons_zero, List.set_cons_succ] at HM; replace HM := Lib.hid HM; replace HV := Lib.hid (HV.out.storedA (i := 2) (z' := v) rfl hbt); simp only [List.set_cons_zero, List.set_cons_succ] at HV; clear hbt)))
    refine bodyPost_ret (Hold.resultsTC HM.out 2 rfl _ rfl rfl rfl (bkRowOf HV.out.len)) rfl ?_
    exact ⟨v, rfl, HV.out.doneA, HM.out.below⟩
  | none =>
    obtain ⟨e1, e2⟩ := shared_new b c s e r hg
    obtain ⟨SH, hSH⟩ : ∃ S, S = Pad.shared b.seed c s e := ⟨_, rfl⟩
    rw [← hSH] at e1 e2
    obtain rfl : X = SH := by rw [hX, e1]
    obtain ⟨L, hL⟩ : ∃ L, L = put b.cells KN.data.toList X.data.toList := ⟨_, rfl⟩
    obtain ⟨M, hM⟩ : ∃ M, L.length = M := ⟨_, rfl⟩
    have hbb : b' = { b with cells := L } := by rw [hb', e2, hL, hKd]
    have R1 := Lib.hid (fun u (hu : Below w0.heap.size w0 u) => Tape.get_any (ofC b.cells) N a cp KN ⟨#[]⟩ false u (by rw [toC_ofC, hKd, hg]; rfl) (by rw [toC_ofC, hKd, hg]; rfl) (hR'.below hu) hnK (by omega))
    have R2 := Lib.hid (fun u (hu : Below w0.heap.size w0 u) => shared_any A b v c s e X u hSH (h.below hu) hro.seed cl ch sl sh el eh (hl.below hu))
    have RP := Lib.hid (fun u (hu : Below w0.heap.size w0 u) => Tape.put_any (ofC b.cells) N a cp KN X L M u (by rw [toC_ofC]; exact hL) hM (hR'.below hu) hnK (by omega) hc)
    have HMM := Lib.hid hM
    have HBB := Lib.hid hbb
    clear hX hb' h hro hl h4 hn hc hR hR' hnK hg e1 e2 hSH hKN hKd hBN hBs cl ch sl sh el eh hL hM hbb
    go_enter Tryz.func27, Tryz.ntmps27
    go_upto_region 7 with ((first
      | ((with_reducible refine Hold.boxK (t := 30) HM.out rfl rfl rfl ?_); clear HM; intro bq w hn hb HM; replace HV := Lib.hid (allocHM HV.out HM hn hb); simp only [List.nil_append, List.cons_append] at HM HV; replace HM := Lib.hid HM; clear hn hb)
      | ((with_reducible refine Hold.boxK (t := 36) HM.out rfl rfl rfl ?_); clear HM; intro bp w hn hb HM; replace HV := Lib.hid (allocHM HV.out HM hn hb); simp only [List.nil_append, List.cons_append] at HM HV; replace HM := Lib.hid HM; clear hn hb)
      | ((with_reducible refine Hold.allocK HM.out rfl rfl zeroBk zero_bk ?_); clear HM; intro br w hn hb HM; replace HV := Lib.hid (allocHM HV.out HM hn hb); simp only [List.nil_append, List.cons_append] at HM HV; replace HM := Lib.hid HM; clear hn hb)
      | (with_reducible refine Hold.load1 HM.out 0 (c := .slice a N cp) rfl rfl rfl rfl H4.out cellC ?_)
      | ((with_reducible refine (R1.out _ HM.out.below).mono ?_); rintro e w ⟨rfl, hb⟩; replace HM := Lib.hid (HM.out.next hb); replace HV := Lib.hid (HV.out.below hb); clear hb)
      | (with_reducible refine Hold.load HM.out 0 (cs := v) rfl rfl rfl rfl (Hold.Part.all _) (bkRowOf HLEN.out) ?_)
      | (with_reducible refine Hold.load1 HM.out 1 (c := .int .i64 c) rfl rfl rfl rfl rfl Bkr.cellInt ?_)
      | (with_reducible refine Hold.load1 HM.out 1 (c := .int .i64 s) rfl rfl rfl rfl rfl Bkr.cellInt ?_)
      | ((with_reducible refine (R2.out _ HM.out.below).mono ?_); rintro e w ⟨rfl, hb⟩; replace HM := Lib.hid (HM.out.next hb); replace HV := Lib.hid (HV.out.below hb); clear hb)
      | ((with_reducible refine (RP.out _ HM.out.below).mono ?_); rintro e w2 ⟨ao, co, rfl, hco, hR, hlow, hb⟩; replace HV := Lib.hid ((HV.out.below hb).set4 (lies_newA HM.out (HSZ.out _ HM.out.below) (R := CelRb) hR HMM.out hco hlow)); replace HM := Lib.hid (HM.out.next hb); clear hR hco hlow hb)
      | ((with_reducible refine Hold.store1K HM.out 0 (c := .slice ao M co) (v' := v.set 4 (.slice ao M co)) rfl rfl rfl rfl rfl (by rw [HLEN.out]; decide) rfl (Hold.cell_sl _ _ _) cellC ?_); clear HM; intro w hbt HM; simp only [List.set_cons_zero, List.set_cons_succ] at HM; replace HM := Lib.hid HM; replace HV := Lib.hid (HV.out.storedA (i := 0) (z' := v.set 4 (.slice ao M co)) rfl hbt); simp only [List.set_cons_zero, List.set_cons_succ] at HV; clear hbt)))
    refine Steady.region 3 (by kernel_rfl) (by kernel_rfl) (fun u => Below w.heap.size w u) (Below.refl _ _).drew ?_
    simp only [List.take_succ_cons, List.take_zero, List.drop_succ_cons, List.drop_zero]
    refine Steady.take ?_ rfl (by intro u hu; go_simp; with_reducible rfl) ?_
    simp only [Act.put, List.setIfInBounds_toArray, List.set_cons_zero, List.set_cons_succ]
    refine Steady.take (.agg (v.set 4 (.slice ao M co)).toArray) rfl (fun u hu => Hold.load_run (HM.out.next hu) 0 rfl rfl rfl (Hold.Part.all _) (bkRowOf HV.out.len)) ?_
    simp only [Act.put, List.setIfInBounds_toArray, List.set_cons_zero, List.set_cons_succ]
    refine Steady.take ?_ rfl (by intro u hu; go_simp; with_reducible rfl) ?_
    simp only [Act.put, List.setIfInBounds_toArray, List.set_cons_zero, List.set_cons_succ]
    refine Steady.nil ?_
    intro w1 hb1
    replace HM := Lib.hid (HM.out.next hb1)
    replace HV := Lib.hid (HV.out.below hb1)
    clear hb1
    go_wp2_with ((first
      | ((with_reducible refine Hold.storeK HM.out 2 (v' := v.set 4 (.slice ao M co)) rfl rfl rfl rfl rfl (bkFits HV.out.len zero_len) (bkLaid HV.out.len zero_len) HV.out.one (bkRowOf HV.out.len) ?_); clear HM; intro w hbt HM; simp only [List.set_cons_zero, List.set_cons_succ] at HM; replace HM := Lib.hid HM; replace HV := Lib.hid (HV.out.storedA (i := 2) (z' := v.set 4 (.slice ao M co)) rfl hbt); simp only [List.set_cons_zero, List.set_cons_succ] at HV; clear hbt)))
    refine bodyPost_ret (Hold.resultsTC HM.out 2 rfl _ rfl rfl rfl (bkRowOf HV.out.len)) rfl ?_
    refine ⟨v.set 4 (.slice ao M co), rfl, ?_, HM.out.below⟩
    rw [HBB.out]
    exact HV.out.doneA

/-- Suffixes that are cut off. -/
theorem trim_any (S P R : ByteArray) (w : World) (h : S.data.toList = R.data.toList ++ P.data.toList) (hs : S.size ≤ 1000) : Calls Tryz.prog 28 #[.string S, .string P] w fun z w' => z = .returned (.string R) ∧ Below w.heap.size w w' := by
  have hh : Lib.hasSuffix S.data.toList P.data.toList = true := by
    rw [h]
    simp [Lib.hasSuffix]
  have ht : (⟨(Lib.trimSuffix S.data.toList P.data.toList).toArray⟩ : ByteArray) = R := by
    unfold Lib.trimSuffix
    rw [if_pos hh, h, List.length_append, Nat.add_sub_cancel, List.take_left]
  refine (Tryz.strings_TrimSuffix S P w (by omega)).mono ?_
  rintro z w' ⟨rfl, rfl⟩
  exact ⟨by rw [ht], Below.refl _ _⟩

set_option maxHeartbeats 6400000 in
theorem pad_fn (A : Nat → Prop) (b b' : Bk) (v : List Value) (c s e r n : Int) (X : ByteArray) (w : World) (hX : X = tx (padS b c s e r n)) (hb' : b' = padB b c s e r n) (h : BkR w b v A) (hro : Room b 900) (hf : Brief b) (c0 : InR c) (s0 : InR s) (e0 : InR e) (r0 : InR r) (n0 : InR n) (hl : Laid w) :
    Calls Tryz.prog 8 #[.agg v.toArray, .agg #[.int .i64 c, .int .i64 s], .int .i64 e, .int .i64 r, .int .i64 n] w fun z w' => ∃ v', z = .returned (.tuple #[.string X, .agg v'.toArray]) ∧ BkR w' b' v' (fun k => A k ∨ w.heap.size ≤ k) ∧ Below w.heap.size w w' := by
  obtain ⟨w0, hw0⟩ : ∃ w0, w0 = w := ⟨w, rfl⟩
  subst hw0
  obtain ⟨a, N, cp, h5, hn, hc, hR, -⟩ := h.at5.lit
  have hn2 : N ≤ 900 := by have := hro.used; omega
  have hnK : (ofC b.used).length = N := by rw [ofC_length]; exact hn
  have hR' : CelR w0 a (ofC b.used) := hR
  obtain ⟨NM, hNM⟩ : ∃ N, N = tx (name c s e r) := ⟨_, rfl⟩
  have hNs : NM.size ≤ 83 := by rw [hNM, tx_long]; exact name_length c s e r c0.2 s0.2 e0.2 r0.2
  have hNd : NM.data.toList = name c s e r := by rw [hNM]
  have R1 := Lib.hid (fun u (hu : Below w0.heap.size w0 u) => Tape.padName_any c s e r NM u hNM c0.1 c0.2 s0.1 s0.2 e0.1 e0.2 r0.1 r0.2 (hl.pow.below hu))
  obtain ⟨G, hG⟩ : ∃ G, G = RTap.gotX (get b.used NM.data.toList) := ⟨_, rfl⟩
  obtain ⟨B, hB⟩ : ∃ B, B = (get b.used NM.data.toList).isSome := ⟨_, rfl⟩
  have R2 := Lib.hid (fun u (hu : Below w0.heap.size w0 u) => Tape.get_any (ofC b.used) N a cp NM G B u (by rw [toC_ofC]; exact hG) (by rw [toC_ofC]; exact hB) (hR'.below hu) hnK (by omega))
  have HM := Lib.hid (Hold.Hld.start w0)
  have HV := Lib.hid h.start
  have H5 := Lib.hid h5
  have HLEN := Lib.hid h.len
  have H0 := Lib.hid h.at0
  have HSZ := Lib.hid (fun (u : World) (hu : Below w0.heap.size w0 u) (k : Nat) (hk : u.heap.size ≤ k) => (Or.inr (Nat.le_trans hu.size hk) : A k ∨ w0.heap.size ≤ k))
  have hpl : plain b c s e r = (b.ideal || B) := by rw [hB, hNd]; rfl
  by_cases hp : plain b c s e r = true
  · have hS2 : X = tx (cellS b NM.data.toList n) := by rw [hX, padS, if_pos hp, hNd]
    have hb2 : b' = cellB b NM.data.toList n := by rw [hb', padB, if_pos hp, hNd]
    have R3 := Lib.hid (fun (A1 : Nat → Prop) u (hu : Below w0.heap.size w0 u) (hk : BkR u b v A1) => cell_any A1 b b' v NM X n u hS2 hb2 hk (hro.more (by decide)) (by omega) (hl.consts.below hl.consts.1 hu))
    rw [hp] at hpl
    cases hi : b.ideal with
    | true =>
      rw [hi] at H0
      clear hX hb' h hro hf c0 s0 e0 r0 n0 hl h5 hn hn2 hc hR hR' hnK hNM hNs hNd hG hB hpl hp hS2 hb2 hi
      go_enter Tryz.func8, Tryz.ntmps8
      go_upto_region 3 with ((first
        | ((with_reducible refine Hold.boxK (t := 30) HM.out rfl rfl rfl ?_); clear HM; intro bq w hn hb HM; replace HV := Lib.hid (allocHM HV.out HM hn hb); simp only [List.nil_append, List.cons_append] at HM HV; replace HM := Lib.hid HM; clear hn hb)
        | ((with_reducible refine Hold.boxK (t := 36) HM.out rfl rfl rfl ?_); clear HM; intro bp w hn hb HM; replace HV := Lib.hid (allocHM HV.out HM hn hb); simp only [List.nil_append, List.cons_append] at HM HV; replace HM := Lib.hid HM; clear hn hb)
        | ((with_reducible refine Hold.allocK HM.out rfl rfl zeroBk zero_bk ?_); clear HM; intro br w hn hb HM; replace HV := Lib.hid (allocHM HV.out HM hn hb); simp only [List.nil_append, List.cons_append] at HM HV; replace HM := Lib.hid HM; clear hn hb)
        | (with_reducible refine Hold.load1 HM.out 1 (c := .int .i64 c) rfl rfl rfl rfl rfl Bkr.cellInt ?_)
        | (with_reducible refine Hold.load1 HM.out 1 (c := .int .i64 s) rfl rfl rfl rfl rfl Bkr.cellInt ?_)
        | (with_reducible refine Hold.load1 HM.out 0 (c := .slice a N cp) rfl rfl rfl rfl H5.out cellC ?_)
        | ((with_reducible refine (R1.out _ HM.out.below).mono ?_); rintro e w ⟨rfl, hb⟩; replace HM := Lib.hid (HM.out.next hb); replace HV := Lib.hid (HV.out.below hb); clear hb)
        | ((with_reducible refine (R2.out _ HM.out.below).mono ?_); rintro e w ⟨rfl, hb⟩; replace HM := Lib.hid (HM.out.next hb); replace HV := Lib.hid (HV.out.below hb); clear hb)))
      have hf := (HM.out.at 0 rfl).row.cell H0.out
      go_wp2_with ((first
        | (with_reducible refine Hold.load HM.out 0 (cs := v) rfl rfl rfl rfl (Hold.Part.all _) (bkRowOf HLEN.out) ?_)
        | ((with_reducible refine (R3.out _ _ HM.out.below HV.out).mono ?_); rintro e w ⟨v1, rfl, hv, hb⟩; clear hf; replace HV := Lib.hid (hv.answeredA HM.out (HSZ.out _ HM.out.below)); replace HM := Lib.hid (HM.out.next hb); clear hv hb)
        | ((with_reducible refine Hold.storeK HM.out 2 (v' := v1) rfl rfl rfl rfl rfl (bkFits HV.out.len zero_len) (bkLaid HV.out.len zero_len) HV.out.one (bkRowOf HV.out.len) ?_); clear HM; intro w hbt HM; simp only [List.set_cons_zero, List.set_cons_succ] at HM; replace HM := Lib.hid HM; replace HV := Lib.hid (HV.out.storedA (i := 2) (z' := v1) rfl hbt); simp only [List.set_cons_zero, List.set_cons_succ] at HV; clear hbt)))
      refine bodyPost_ret (Hold.resultsTC HM.out 2 rfl _ rfl rfl rfl (bkRowOf HV.out.len)) rfl ?_
      exact ⟨v1, rfl, HV.out.doneA, HM.out.below⟩
    | false =>
      rw [hi] at H0 hpl
      obtain rfl : B = true := by simpa using hpl.symm
      clear hX hb' h hro hf c0 s0 e0 r0 n0 hl h5 hn hn2 hc hR hR' hnK hNM hNs hNd hG hB hpl hp hS2 hb2 hi
      go_enter Tryz.func8, Tryz.ntmps8
      go_upto_region 3 with ((first
        | ((with_reducible refine Hold.boxK (t := 30) HM.out rfl rfl rfl ?_); clear HM; intro bq w hn hb HM; replace HV := Lib.hid (allocHM HV.out HM hn hb); simp only [List.nil_append, List.cons_append] at HM HV; replace HM := Lib.hid HM; clear hn hb)
        | ((with_reducible refine Hold.boxK (t := 36) HM.out rfl rfl rfl ?_); clear HM; intro bp w hn hb HM; replace HV := Lib.hid (allocHM HV.out HM hn hb); simp only [List.nil_append, List.cons_append] at HM HV; replace HM := Lib.hid HM; clear hn hb)
        | ((with_reducible refine Hold.allocK HM.out rfl rfl zeroBk zero_bk ?_); clear HM; intro br w hn hb HM; replace HV := Lib.hid (allocHM HV.out HM hn hb); simp only [List.nil_append, List.cons_append] at HM HV; replace HM := Lib.hid HM; clear hn hb)
        | (with_reducible refine Hold.load1 HM.out 1 (c := .int .i64 c) rfl rfl rfl rfl rfl Bkr.cellInt ?_)
        | (with_reducible refine Hold.load1 HM.out 1 (c := .int .i64 s) rfl rfl rfl rfl rfl Bkr.cellInt ?_)
        | (with_reducible refine Hold.load1 HM.out 0 (c := .slice a N cp) rfl rfl rfl rfl H5.out cellC ?_)
        | ((with_reducible refine (R1.out _ HM.out.below).mono ?_); rintro e w ⟨rfl, hb⟩; replace HM := Lib.hid (HM.out.next hb); replace HV := Lib.hid (HV.out.below hb); clear hb)
        | ((with_reducible refine (R2.out _ HM.out.below).mono ?_); rintro e w ⟨rfl, hb⟩; replace HM := Lib.hid (HM.out.next hb); replace HV := Lib.hid (HV.out.below hb); clear hb)))
      have hf := (HM.out.at 0 rfl).row.cell H0.out
      go_wp2_with ((first
        | (with_reducible refine Hold.load HM.out 0 (cs := v) rfl rfl rfl rfl (Hold.Part.all _) (bkRowOf HLEN.out) ?_)
        | ((with_reducible refine (R3.out _ _ HM.out.below HV.out).mono ?_); rintro e w ⟨v1, rfl, hv, hb⟩; clear hf; replace HV := Lib.hid (hv.answeredA HM.out (HSZ.out _ HM.out.below)); replace HM := Lib.hid (HM.out.next hb); clear hv hb)
        | ((with_reducible refine Hold.storeK HM.out 2 (v' := v1) rfl rfl rfl rfl rfl (bkFits HV.out.len zero_len) (bkLaid HV.out.len zero_len) HV.out.one (bkRowOf HV.out.len) ?_); clear HM; intro w hbt HM; simp only [List.set_cons_zero, List.set_cons_succ] at HM; replace HM := Lib.hid HM; replace HV := Lib.hid (HV.out.storedA (i := 2) (z' := v1) rfl hbt); simp only [List.set_cons_zero, List.set_cons_succ] at HV; clear hbt)))
      refine bodyPost_ret (Hold.resultsTC HM.out 2 rfl _ rfl rfl rfl (bkRowOf HV.out.len)) rfl ?_
      exact ⟨v1, rfl, HV.out.doneA, HM.out.below⟩
  · have hp2 : plain b c s e r = false := by simpa using hp
    rw [hp2] at hpl
    have hi : b.ideal = false := (Bool.or_eq_false_iff.1 hpl.symm).1
    obtain rfl : B = false := (Bool.or_eq_false_iff.1 hpl.symm).2
    have hS2 : X = tx (Pad.of (sharedOf b c s e r) r n) := by rw [hX, padS, if_neg hp]
    have hb2 : b' = { b with cells := cellsOf b c s e r, used := put b.used (name c s e r) (Pad.of (sharedOf b c s e r) r n) } := by rw [hb', padB, if_neg hp]
    have hSl := sharedOf_length b c s e r hf hi
    obtain ⟨b3, hb3⟩ : ∃ b3 : Bk, b3 = { b with cells := cellsOf b c s e r } := ⟨_, rfl⟩
    obtain ⟨SH, hSH⟩ : ∃ S, S = tx (sharedOf b c s e r) := ⟨_, rfl⟩
    have hSd : SH.data.toList = sharedOf b c s e r := by rw [hSH]
    have hSs : SH.size ≤ 1000 := by rw [hSH, tx_long]; exact hSl
    obtain ⟨BN, hBN⟩ : ∃ B, B = tx (joined padT [c, s, e]) := ⟨_, rfl⟩
    obtain ⟨DR, hDR⟩ : ∃ D, D = tx (dec r) := ⟨_, rfl⟩
    have hDs : DR.size ≤ 100 := by rw [hDR, tx_long]; have := dec_length r r0.2; omega
    obtain ⟨SP, hap⟩ : ∃ P, (⟨#[32]⟩ : ByteArray) ++ DR = P := ⟨_, rfl⟩
    have hbig : ¬ 9223372036854775807 < (⟨#[32]⟩ : ByteArray).size + DR.size := by
      show ¬ 9223372036854775807 < 1 + DR.size
      omega
    have hbig1 : ¬ 9223372036854775807 < 1 + DR.size := by omega
    have hSPd : SP.data.toList = [32] ++ dec r := by
      have e9 : (⟨#[32]⟩ : ByteArray) ++ DR = tx ([32] ++ dec r) := by rw [hDR]; exact tx_append [32] _
      rw [← hap, e9]
    have hNB : NM.data.toList = BN.data.toList ++ SP.data.toList := by
      rw [hNd, hBN, hSPd, name_parts, List.append_assoc]
    have hS3 : X = tx (Pad.of SH.data.toList r n) := by rw [hS2, hSd]
    have hXd : X.data.toList = Pad.of SH.data.toList r n := by rw [hS3]
    obtain ⟨L, hL⟩ : ∃ L, L = put b.used NM.data.toList X.data.toList := ⟨_, rfl⟩
    obtain ⟨M, hM⟩ : ∃ M, L.length = M := ⟨_, rfl⟩
    have hbb : b' = { b3 with used := L } := by rw [hb2, hb3, hL, hNd, hXd, hSd]
    have hLn : ∀ x ∈ L, x.1.length ≤ 1000000 := by rw [hL]; exact put_names h.names (by rw [tlen]; omega)
    have hu3 : b3.used = b.used := by rw [hb3]
    have R3 := Lib.hid (fun u (hu : Below w0.heap.size w0 u) => Tape.dec_any r DR u hDR r0.1 r0.2 (hl.pow.below hu))
    have R4 := Lib.hid (fun u => trim_any NM SP BN u hNB (by omega))
    have R5 := Lib.hid (fun (A1 : Nat → Prop) u (hu : Below w0.heap.size w0 u) (hk : BkR u b v A1) => kept_fn A1 b b3 v c s e r BN SH u hBN hSH hb3 hk hro c0.1 c0.2 s0.1 s0.2 e0.1 e0.2 (hl.below hu))
    have R6 := Lib.hid (fun u (hu : Below w0.heap.size w0 u) => of_any SH X r n u hS3 hSs r0.1 r0.2 n0.1 n0.2 (hl.below hu))
    have R7 := Lib.hid (fun a2 c2 u (hk : CelR u a2 (ofC b.used)) (hc2 : N ≤ c2) => Tape.put_any (ofC b.used) N a2 c2 NM X L M u (by rw [toC_ofC]; exact hL) hM hk hnK (by omega) hc2)
    have HMM := Lib.hid hM
    have HBB := Lib.hid hbb
    have HLN := Lib.hid hLn
    have HU := Lib.hid (And.intro hu3 hn)
    rw [hi] at H0
    clear hX hb' h hro hf c0 s0 e0 r0 n0 hl h5 hn hn2 hc hR hR' hnK hNM hNs hNd hG hB hpl hp hp2 hS2 hb2 hi hSl hb3 hSH hSd hSs hBN hDR hDs hSPd hNB hS3 hXd hL hM hbb hLn hu3
    go_enter Tryz.func8, Tryz.ntmps8
    go_upto_region 3 with ((first
      | ((with_reducible refine Hold.boxK (t := 30) HM.out rfl rfl rfl ?_); clear HM; intro bq w hn hb HM; replace HV := Lib.hid (allocHM HV.out HM hn hb); simp only [List.nil_append, List.cons_append] at HM HV; replace HM := Lib.hid HM; clear hn hb)
      | ((with_reducible refine Hold.boxK (t := 36) HM.out rfl rfl rfl ?_); clear HM; intro bp w hn hb HM; replace HV := Lib.hid (allocHM HV.out HM hn hb); simp only [List.nil_append, List.cons_append] at HM HV; replace HM := Lib.hid HM; clear hn hb)
      | ((with_reducible refine Hold.allocK HM.out rfl rfl zeroBk zero_bk ?_); clear HM; intro br w hn hb HM; replace HV := Lib.hid (allocHM HV.out HM hn hb); simp only [List.nil_append, List.cons_append] at HM HV; replace HM := Lib.hid HM; clear hn hb)
      | (with_reducible refine Hold.load1 HM.out 1 (c := .int .i64 c) rfl rfl rfl rfl rfl Bkr.cellInt ?_)
      | (with_reducible refine Hold.load1 HM.out 1 (c := .int .i64 s) rfl rfl rfl rfl rfl Bkr.cellInt ?_)
      | (with_reducible refine Hold.load1 HM.out 0 (c := .slice a N cp) rfl rfl rfl rfl H5.out cellC ?_)
      | ((with_reducible refine (R1.out _ HM.out.below).mono ?_); rintro e w ⟨rfl, hb⟩; replace HM := Lib.hid (HM.out.next hb); replace HV := Lib.hid (HV.out.below hb); clear hb)
      | ((with_reducible refine (R2.out _ HM.out.below).mono ?_); rintro e w ⟨rfl, hb⟩; replace HM := Lib.hid (HM.out.next hb); replace HV := Lib.hid (HV.out.below hb); clear hb)))
    have hf := (HM.out.at 0 rfl).row.cell H0.out
    go_upto_region 5 with fail
    clear hf
    refine Steady.region_root 8 (by kernel_rfl) (by kernel_rfl) (fun u => Below w.heap.size w u) (Below.refl _ _).drew ?_
    simp only [List.take_succ_cons, List.take_zero]
    refine Steady.take (.agg (v).toArray) rfl (fun u hu => Hold.load_run (HM.out.next hu) 0 rfl rfl rfl (Hold.Part.all _) (bkRowOf HLEN.out)) ?_
    simp only [Act.put, List.setIfInBounds_toArray, List.set_cons_zero, List.set_cons_succ]
    refine Steady.take (.agg ([.int .i64 c, .int .i64 s]).toArray) rfl (fun u hu => Hold.load_run (HM.out.next hu) 1 rfl rfl rfl (Hold.Part.all _) (pairRow)) ?_
    simp only [Act.put, List.setIfInBounds_toArray, List.set_cons_zero, List.set_cons_succ]
    refine Steady.take ?_ rfl (by intro u hu; go_simp; with_reducible rfl) ?_
    simp only [Act.put, List.setIfInBounds_toArray, List.set_cons_zero, List.set_cons_succ]
    refine Steady.take ?_ rfl (by intro u hu; go_simp; with_reducible rfl) ?_
    simp only [Act.put, List.setIfInBounds_toArray, List.set_cons_zero, List.set_cons_succ]
    refine Steady.take ?_ rfl (by intro u hu; go_simp; with_reducible rfl) ?_
    simp only [Act.put, List.setIfInBounds_toArray, List.set_cons_zero, List.set_cons_succ]
    refine Steady.call _ _ _ rfl ?_ (Chn.keptIf (fun u hu => R3.out u (HM.out.next hu).below)) ?_
    · intro u
      go_simp
    simp only [Act.put, List.setIfInBounds_toArray, List.set_cons_zero, List.set_cons_succ]
    refine Steady.take ?_ rfl (by intro u hu; go_simp; with_reducible rfl) ?_
    simp only [Act.put, List.setIfInBounds_toArray, List.set_cons_zero, List.set_cons_succ]
    refine Steady.call _ _ _ rfl ?_ (Chn.keptIf (fun u hu => R4.out u)) ?_
    · intro u
      go_simp
    simp only [Act.put, List.setIfInBounds_toArray, List.set_cons_zero, List.set_cons_succ]
    refine Steady.nil ?_
    intro w1 hb1
    replace HM := Lib.hid (HM.out.next hb1)
    replace HV := Lib.hid (HV.out.below hb1)
    clear hb1
    change wpAny _ _ _ _ (5 + 1) _ _ _
    refine wpAny_all (rs := [8]) (by kernel_rfl) (by simp) (fun j hj => ?_)
    obtain rfl : j = 8 := by simpa using hj
    refine Steady.call_any (i := 8) (by simp only [List.getElem?_toArray, List.getElem?_cons_succ, List.getElem?_cons_zero]; rfl) (by kernel_rfl) _ _ (by go_simp) (fun u w' => ∃ v1, u = .tuple #[.string SH, .agg v1.toArray] ∧ BkR w' b3 v1 (fun k => In (fun k => A k ∨ w0.heap.size ≤ k) [⟨bq, 30, v⟩, ⟨bp, 36, [.int .i64 c, .int .i64 s]⟩, ⟨br, 30, zeroBk⟩] k ∨ w1.heap.size ≤ k) ∧ Below w1.heap.size w1 w') ((R5.out _ w1 HM.out.below HV.out).mono (fun e w' hh => by obtain ⟨v1, e1, e2⟩ := hh; exact ⟨_, e1, v1, rfl, e2⟩)) ?_
    rintro u w2 ⟨v1, rfl, hv, hb⟩
    replace HV := Lib.hid (hv.answeredA HM.out (HSZ.out _ HM.out.below))
    replace HM := Lib.hid (HM.out.next hb)
    clear hv hb
    try simp only [List.getElem_toArray, List.getElem_cons_succ, List.getElem_cons_zero, Act.put, List.setIfInBounds_toArray, List.set_cons_zero, List.set_cons_succ]
    change wpAny _ _ _ _ (4 + 1) _ _ _
    refine wpAny_take (i := 9) (by simp only [List.getElem?_toArray, List.getElem?_cons_succ, List.getElem?_cons_zero]; rfl) (by kernel_rfl) (by kernel_rfl) (by kernel_rfl) (fun _ _ _ h => by exact h) (Or.inl ⟨by rfl, fun u => by go_simp; try with_reducible rfl⟩) ?_
    try simp only [List.getElem_toArray, List.getElem_cons_succ, List.getElem_cons_zero, Act.put, List.setIfInBounds_toArray, List.set_cons_zero, List.set_cons_succ]
    change wpAny _ _ _ _ (3 + 1) _ _ _
    refine wpAny_take (i := 10) (by simp only [List.getElem?_toArray, List.getElem?_cons_succ, List.getElem?_cons_zero]; rfl) (by kernel_rfl) (by kernel_rfl) (by kernel_rfl) (fun _ _ _ h => by exact h) (Or.inl ⟨by rfl, fun u => by go_simp; try with_reducible rfl⟩) ?_
    try simp only [List.getElem_toArray, List.getElem_cons_succ, List.getElem_cons_zero, Act.put, List.setIfInBounds_toArray, List.set_cons_zero, List.set_cons_succ]
    change wpAny _ _ _ _ (2 + 1) _ _ _
    refine wpAny_take (i := 11) (by simp only [List.getElem?_toArray, List.getElem?_cons_succ, List.getElem?_cons_zero]; rfl) (by kernel_rfl) (by kernel_rfl) (by kernel_rfl) (fun _ _ _ h => by exact h) (Or.inl ⟨by rfl, fun u => by go_simp; try with_reducible rfl⟩) ?_
    try simp only [List.getElem_toArray, List.getElem_cons_succ, List.getElem_cons_zero, Act.put, List.setIfInBounds_toArray, List.set_cons_zero, List.set_cons_succ]
    change wpAny _ _ _ _ (1 + 1) _ _ _
    refine wpAny_take (i := 12) (by simp only [List.getElem?_toArray, List.getElem?_cons_succ, List.getElem?_cons_zero]; rfl) (by kernel_rfl) (by kernel_rfl) (by kernel_rfl) (fun _ _ _ h => by exact h) (Or.inl ⟨by rfl, fun u => by go_simp; try with_reducible rfl⟩) ?_
    try simp only [List.getElem_toArray, List.getElem_cons_succ, List.getElem_cons_zero, Act.put, List.setIfInBounds_toArray, List.set_cons_zero, List.set_cons_succ]
    change wpAny _ _ _ _ (0 + 1) _ _ _
    refine wpAny_all (rs := [13]) (by kernel_rfl) (by simp) (fun j hj => ?_)
    obtain rfl : j = 13 := by simpa using hj
    refine Hold.op_storeK HM.out 0 (i := 13) (v' := v1) (by simp only [List.getElem?_toArray, List.getElem?_cons_succ, List.getElem?_cons_zero]; rfl) rfl rfl rfl rfl rfl (bkFits HV.out.len HLEN.out) (bkLaid HV.out.len HLEN.out) (HV.out.one) (bkRowOf HV.out.len) ?_
    clear HM
    intro w3 hbt HM
    simp only [List.set_cons_zero, List.set_cons_succ] at HM
    replace HM := Lib.hid HM
    replace HV := Lib.hid (HV.out.storedA (i := 0) (z' := v1) rfl hbt)
    simp only [List.set_cons_zero, List.set_cons_succ] at HV
    try simp only [List.getElem_toArray, List.getElem_cons_succ, List.getElem_cons_zero, Act.put, List.setIfInBounds_toArray, List.set_cons_zero, List.set_cons_succ]
    refine wpAny_done (by kernel_rfl) ?_ _
    obtain ⟨a5, n5, c5, g5, gn, gc, gR, -⟩ := HV.out.at5.lit
    rw [HU.out.1, HU.out.2] at gn
    subst gn
    have H5' := Lib.hid g5
    have HR' := Lib.hid gc
    have L1 := Lib.hid HV.out.len
    clear g5 gR gc
    go_upto_region 8 with ((first
      | ((with_reducible refine (R6.out _ HM.out.below).mono ?_); rintro e w ⟨rfl, hb⟩; replace HM := Lib.hid (HM.out.next hb); replace HV := Lib.hid (HV.out.below hb); clear hb)
      | (with_reducible refine Hold.load1 HM.out 0 (c := .slice a5 N c5) rfl rfl rfl rfl H5'.out cellC ?_)
      | ((with_reducible refine (R7.out _ _ _ (used_at HV.out H5'.out HU.out.1) HR'.out).mono ?_); rintro e w2 ⟨ao, co, rfl, hco, hR, hlow, hb⟩; replace HV := Lib.hid ((HV.out.below hb).set5 (lies_newA HM.out (HSZ.out _ HM.out.below) (R := CelRb) hR HMM.out hco hlow) HLN.out); replace HM := Lib.hid (HM.out.next hb); clear hR hco hlow hb)
      | ((with_reducible refine Hold.store1K HM.out 0 (c := .slice ao M co) (v' := v1.set 5 (.slice ao M co)) rfl rfl rfl rfl rfl (by rw [L1.out]; decide) rfl (Hold.cell_sl _ _ _) cellC ?_); clear HM; intro w hbt HM; simp only [List.set_cons_zero, List.set_cons_succ] at HM; replace HM := Lib.hid HM; replace HV := Lib.hid (HV.out.storedA (i := 0) (z' := v1.set 5 (.slice ao M co)) rfl hbt); simp only [List.set_cons_zero, List.set_cons_succ] at HV; clear hbt)))
    refine Steady.region 3 (by kernel_rfl) (by kernel_rfl) (fun u => Below w.heap.size w u) (Below.refl _ _).drew ?_
    simp only [List.take_succ_cons, List.take_zero, List.drop_succ_cons, List.drop_zero]
    refine Steady.take ?_ rfl (by intro u hu; go_simp; with_reducible rfl) ?_
    simp only [Act.put, List.setIfInBounds_toArray, List.set_cons_zero, List.set_cons_succ]
    refine Steady.take (.agg (v1.set 5 (.slice ao M co)).toArray) rfl (fun u hu => Hold.load_run (HM.out.next hu) 0 rfl rfl rfl (Hold.Part.all _) (bkRowOf HV.out.len)) ?_
    simp only [Act.put, List.setIfInBounds_toArray, List.set_cons_zero, List.set_cons_succ]
    refine Steady.take ?_ rfl (by intro u hu; go_simp; with_reducible rfl) ?_
    simp only [Act.put, List.setIfInBounds_toArray, List.set_cons_zero, List.set_cons_succ]
    refine Steady.nil ?_
    intro w1 hb1
    replace HM := Lib.hid (HM.out.next hb1)
    replace HV := Lib.hid (HV.out.below hb1)
    clear hb1
    go_wp2_with ((first
      | ((with_reducible refine Hold.storeK HM.out 2 (v' := v1.set 5 (.slice ao M co)) rfl rfl rfl rfl rfl (bkFits HV.out.len zero_len) (bkLaid HV.out.len zero_len) HV.out.one (bkRowOf HV.out.len) ?_); clear HM; intro w hbt HM; simp only [List.set_cons_zero, List.set_cons_succ] at HM; replace HM := Lib.hid HM; replace HV := Lib.hid (HV.out.storedA (i := 2) (z' := v1.set 5 (.slice ao M co)) rfl hbt); simp only [List.set_cons_zero, List.set_cons_succ] at HV; clear hbt)))
    refine bodyPost_ret (Hold.resultsTC HM.out 2 rfl _ rfl rfl rfl (bkRowOf HV.out.len)) rfl ?_
    refine ⟨v1.set 5 (.slice ao M co), rfl, ?_, HM.out.below⟩
    rw [HBB.out]
    exact HV.out.doneA
theorem con : Con where
  secret A b v c s e X w hX h hro c0 s0 e0 hl := secret_any A b v c s e X w hX h hro c0.1 c0.2 s0.1 s0.2 e0.1 e0.2 hl
  server A b v s e X w hX h hro s0 e0 hl := server_any A b v s e X w hX h hro s0.1 s0.2 e0.1 e0.2 hl
  shared A b v c s e X w hX h hro c0 s0 e0 hl := shared_any A b v c s e X w hX h hro c0.1 c0.2 s0.1 s0.2 e0.1 e0.2 hl
  of sh X r n w hX hs r0 n0 hl := of_any sh X r n w hX hs r0.1 r0.2 n0.1 n0.2 hl
  pad A b b' v c s e r n X w hX hb' h hro hf c0 s0 e0 r0 n0 hl := pad_fn A b b' v c s e r n X w hX hb' h hro hf c0 s0 e0 r0 n0 hl
  reveal s p X E r n w hX hE r0 n0 hl := reveal_any s p X E r n w hX hE r0.1 r0.2 n0.1 n0.2 hl
end Go.Proofs.YtolmfimpaofefaaGreatDoor.Pad
