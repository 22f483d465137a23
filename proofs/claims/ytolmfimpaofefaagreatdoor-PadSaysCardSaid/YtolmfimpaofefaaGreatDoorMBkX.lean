/-
  Several texts as one (BkV, BkE, BkX). source and Cell of package book: what the plain mathematics of the text Bkm says; all memory that was there is left as it was. Conditions: the listed tables; short texts, few of each list. The ends of functions that answer a value beside a struct. Nothing here speaks of a program: no condition but those that each lemma names. Cell of package book: what the plain mathematics of the text Bkm says; all memory that was there is left as it was. Conditions: the listed tables; short texts, few of each list.
-/
import Derived.Test.YtolmfimpaofefaaGreatDoorMBkB
import Derived.Test.YtolmfimpaofefaaGreatDoorBkM
namespace Go.Proofs.YtolmfimpaofefaaGreatDoor.Bkb
open Go.RowKit Mur Prt Lanes Tap Bkl Bkm Rec Cel Bkr
set_option maxRecDepth 100000
set_option linter.unusedSimpArgs false

theorem derive_two (key t s : ByteArray) (n : Int) (X : ByteArray) (b : Nat) (w : World) (hkey : key.size ≤ 35184372088832) (ht : t.size ≤ 100) (hs : s.size ≤ 1000000) (hb : b < w.heap.size) (hc : w.cell? ⟨b, 0, none⟩ = some (.string t)) (hd : w.cell? ⟨b, 1, none⟩ = some (.string s)) (hX : X = tx (Ked.derive key.data.toList (Ked.many n) [t.data.toList, s.data.toList])) (hk : Sha.Consts w) :
    Calls Tryz.prog 39 #[.string key, .int .i64 n, .slice (some ⟨b, 0, none⟩) 2 2] w fun e w' => e = .returned (.string X) ∧ Below w.heap.size w w' := by
  refine Ked.derive_any key n [t, s] X (some ⟨b, 0, none⟩) b 0 2 w hkey (fun _ => ⟨rfl, hb⟩) ?_ (by show 2 ≤ _; omega) ?_ ?_ hX hk
  · intro i hi
    match i, hi with
    | 0, _ => exact hc
    | 1, _ => exact hd
  · show (Ked.infoOf [t.data.toList, s.data.toList]).length ≤ _
    have h1 : t.data.toList.length = t.size := rfl
    have h2 : s.data.toList.length = s.size := rfl
    simp only [Ked.infoOf, List.map_cons, List.map_nil, List.flatten_cons, List.flatten_nil, List.append_nil, List.length_append, Lanes.high, List.length_map, List.length_range]
    omega
  · intro x hx
    rcases List.mem_cons.1 hx with rfl | hx
    · omega
    · obtain rfl := List.mem_singleton.1 hx
      omega

set_option maxHeartbeats 1600000 in
theorem source_any (A : Nat → Prop) (b : Bk) (v : List Value) (name X : ByteArray) (n : Int) (w : World) (hX : X = tx (srcS b name.data.toList n)) (h : BkR w b v A) (hro : Room b 1000) (hs : name.size ≤ 1000000) (hl : Sha.Consts w) :
    Calls Tryz.prog 52 #[.agg v.toArray, .string name, .int .i64 n] w fun e w' => e = .returned (.string X) ∧ Below w.heap.size w w' := by
  obtain ⟨w0, hw0⟩ : ∃ w0, w0 = w := ⟨w, rfl⟩
  subst hw0
  have HM := Lib.hid (Hold.Hld.start w0)
  have H0 := Lib.hid h.at0
  have hsl : (tx b.seed).size ≤ 1000 := hro.seed
  by_cases hi : b.ideal = true
  · obtain ⟨a, k, c, h4, hk, -, hR, -⟩ := h.at4.lit
    have hkn : k ≤ 1000 := by have := hro.cells; omega
    obtain ⟨B, hB⟩ : ∃ B, B = (get b.cells name.data.toList).isSome := ⟨_, rfl⟩
    have hX2 : X = RTap.gotX (get b.cells name.data.toList) := by
      rw [hX, srcS, if_pos hi]
      cases get b.cells name.data.toList with
      | none => rfl
      | some s => rfl
    have R1 := Lib.hid (fun u (hu : Below w0.heap.size w0 u) => Tape.get_any (ofC b.cells) k a c name X B u (by rw [toC_ofC]; exact hX2) (by rw [toC_ofC]; exact hB) (CelR.below hR hu) (by rw [ofC_length]; exact hk) (by omega))
    have H4 := Lib.hid h4
    rw [hi] at H0
    clear h hro hs hl hX hX2 hB hR hk h4 hsl hi
    go_enter Tryz.func52, Tryz.ntmps52
    go_wp2_with ((first
      | ((with_reducible refine Hold.box HM.out rfl rfl rfl ?_); clear HM; intro b1 w HM; simp only [List.nil_append] at HM; replace HM := Lib.hid HM)
      | (with_reducible refine Hold.load1 HM.out 0 (c := .bool true) rfl rfl rfl rfl H0.out cellBool ?_)
      | (with_reducible refine Hold.load1 HM.out 0 (c := .slice a k c) rfl rfl rfl rfl H4.out cellC ?_)
      | ((with_reducible refine (R1.out _ HM.out.below).mono ?_); rintro e w ⟨rfl, hb⟩; replace HM := Lib.hid (HM.out.next hb); clear hb)))
    go_ret
    exact ⟨rfl, HM.out.below⟩
  · have hif : b.ideal = false := by simpa using hi
    have H1 := Lib.hid h.at1
    have hX2 : X = tx (Ked.derive (tx b.seed).data.toList (Ked.many n) [cellT, name.data.toList]) := by
      rw [hX, srcS, if_neg hi]
    have R1 := Lib.hid (fun (q : Nat) (u : World) (hq : q < u.heap.size) (hc : u.cell? ⟨q, 0, none⟩ = some (.string ⟨#[99, 101, 108, 108]⟩)) (hd : u.cell? ⟨q, 1, none⟩ = some (.string name)) (hu : Below w0.heap.size w0 u) => derive_two (tx b.seed) ⟨#[99, 101, 108, 108]⟩ name n X q u (by omega) (by decide) hs hq hc hd hX2 (hl.below hl.1 hu))
    rw [hif] at H0
    generalize tx b.seed = sd at *
    clear h hro hs hl hX hX2 hsl hi hif
    go_enter Tryz.func52, Tryz.ntmps52
    go_wp2_with ((first
      | ((with_reducible refine Hold.box HM.out rfl rfl rfl ?_); clear HM; intro b1 w HM; simp only [List.nil_append] at HM; replace HM := Lib.hid HM)
      | (with_reducible refine Hold.load1 HM.out 0 (c := .bool false) rfl rfl rfl rfl H0.out cellBool ?_)
      | (with_reducible refine Hold.load1 HM.out 0 (c := .string sd) rfl rfl rfl rfl H1.out Bkr.cellStr ?_)
      | ((refine (R1.out w.heap.size (w.alloc (.cells #[.string ⟨#[99, 101, 108, 108]⟩, .string name] 9)) (by simp) (by simp) (by simp) (HM.out.add 9 [.string ⟨#[99, 101, 108, 108]⟩, .string name]).below).mono ?_); rintro e w2 ⟨rfl, hb⟩; replace HM := Lib.hid ((HM.out.add 9 [.string ⟨#[99, 101, 108, 108]⟩, .string name]).next hb); clear hb)))
    go_ret
    exact ⟨rfl, HM.out.below⟩
end Go.Proofs.YtolmfimpaofefaaGreatDoor.Bkb

namespace Go.Proofs.YtolmfimpaofefaaGreatDoor.Hold
open Go Go.RowKit Mur
section
variable {P : Program} {w w0 : World} {m : List Blk}
theorem resultsTC {fn : Func} {o p b : Nat} {ty t : TypeId} {v : List Value} {c : Value} (h : Hld w0 m w) (i : Nat) (hf : fn.results = #[.tmp o, .cell p ty]) (tmps : Array Value) (ho : tmps.getD o undef = c) (hp : tmps.getD p undef = .pointer (some ⟨b, 0, none⟩)) (hi : m[i]? = some ⟨b, t, v⟩) (hr : TyRow P ty v.length) :
    (results fn tmps).run P w = .ok (.tuple #[c, .agg v.toArray]) w := by
  obtain ⟨d, hu, hd, hs⟩ := hr
  have hp' : tmps[p]?.getD undef = .pointer (some ⟨b, 0, none⟩) := by simpa using hp
  have ho' : tmps[o]?.getD undef = c := by simpa using ho
  simp [results, hf, hp', ho', asAddr, run_loadVar_mid w b 0 ty v d (h.range i hi (Part.all v)) hu hd hs]
end
end Go.Proofs.YtolmfimpaofefaaGreatDoor.Hold

namespace Go.Proofs.YtolmfimpaofefaaGreatDoor.Bkb
open Go.RowKit Mur Prt Lanes Tap Bkl Bkm Rec Cel Bkr Bkp2 Go.Maps
set_option maxRecDepth 100000
set_option linter.unusedSimpArgs false

set_option maxHeartbeats 3200000 in
theorem cell_any (A : Nat → Prop) (b b' : Bk) (v : List Value) (name S : ByteArray) (n : Int) (w : World) (hS : S = tx (cellS b name.data.toList n)) (hb' : b' = cellB b name.data.toList n) (h : BkR w b v A) (hro : Room b 1000) (hs : name.size ≤ 1000000) (hl : Sha.Consts w) :
    Calls Tryz.prog 26 #[.agg v.toArray, .string name, .int .i64 n] w fun e w' => ∃ v', e = .returned (.tuple #[.string S, .agg v'.toArray]) ∧ BkR w' b' v' (fun k => A k ∨ w.heap.size ≤ k) ∧ Below w.heap.size w w' := by
  obtain ⟨w0, hw0⟩ : ∃ w0, w0 = w := ⟨w, rfl⟩
  subst hw0
  obtain ⟨a, N, c, h5, hn, hc, hR, -⟩ := h.at5.lit
  have hn2 : N ≤ 1000 := by have := hro.used; omega
  have hnK : (ofC b.used).length = N := by rw [ofC_length]; exact hn
  have hR' : CelR w0 a (ofC b.used) := hR
  have hzn : ∀ x ∈ ofC b.used, x.1.size ≤ maxLen := fun x hx => by
    simp only [ofC, List.mem_map] at hx
    obtain ⟨y, hy, rfl⟩ := hx
    have := h.names y hy
    show y.1.length ≤ maxLen
    unfold maxLen
    omega
  have R1 := Lib.hid (fun u (hu : Below w0.heap.size w0 u) => places_any a N c (ofC b.used) u hnK (by omega) (hR'.below hu) hzn)
  have HM := Lib.hid (Hold.Hld.start w0)
  have HV := Lib.hid h.start
  have H5 := Lib.hid h5
  have HSZ := Lib.hid (fun (u : World) (hu : Below w0.heap.size w0 u) (k : Nat) (hk : u.heap.size ≤ k) => (Or.inr (Nat.le_trans hu.size hk) : A k ∨ w0.heap.size ≤ k))
  have hkey : keyOf Tryz.prog 9 (.string name) = some (.string name.data.toList) := Go.WideMaps.keyOf_string_mk Tryz.underlying9 (by unfold maxLen; omega)
  have HKEY := Lib.hid hkey
  cases hf : first name.data.toList (ofC b.used) 0 with
  | some i =>
    obtain ⟨-, hiN, x, hx, hg⟩ := first_some _ _ _ _ hf
    rw [toC_ofC] at hg
    rw [Nat.sub_zero] at hx
    rw [hnK, Nat.zero_add] at hiN
    have hbb : b' = b := by rw [hb', cellB, hg]
    have hSS : S = tx (fit x.2.data.toList n) := by rw [hS, cellS, hg]
    subst hbb
    obtain ⟨g, o, rfl, hgb, hgc⟩ := hR' (by omega)
    have hcx := (hgc i x hx).2
    have HCX := Lib.hid (fun (u : World) (hu : Below w0.heap.size w0 u) => (hu.cell (p := ⟨g, o + i * 2 + 1, none⟩) hgb).trans hcx)
    have RF := Lib.hid (fun u => Tape.fit_all x.2 n S u hSS)
    have HF := Lib.hid hf
    have hin : (i : Int) < (N : Int) := by omega
    have hi0 : (0 : Int) ≤ (i : Int) := by omega
    generalize x.2 = D at *
    clear hS hb' h hro hs hl hkey h5 hn hc hR hR' hnK hzn hf hx hg hgc hcx hgb hSS
    go_enter Tryz.func26, Tryz.ntmps26
    go_upto_region 3 with ((first
      | ((with_reducible refine Hold.boxK HM.out rfl rfl rfl ?_); clear HM; intro b1 w hn hb HM; simp only [List.nil_append] at HM; replace HM := Lib.hid HM; replace HV := Lib.hid (HV.out.allocA (t := 30) (z := v) hn hb); simp only [List.nil_append] at HV; clear hn hb)
      | ((with_reducible refine Hold.allocK HM.out rfl rfl zeroBk zero_bk ?_); clear HM; intro b2 w hn hb HM; simp only [List.nil_append, List.cons_append] at HM; replace HM := Lib.hid HM; replace HV := Lib.hid (HV.out.allocA (t := 30) (z := zeroBk) hn hb); simp only [List.cons_append, List.nil_append] at HV; clear hn hb)
      | (with_reducible refine Hold.load1 HM.out 0 (c := .slice (some ⟨g, o, none⟩) N c) rfl rfl rfl rfl H5.out cellC ?_)
      | ((with_reducible refine (R1.out _ HM.out.below).mono ?_); rintro e w ⟨mb, rfl, hpl, hb⟩; obtain ⟨mk, MD, hown, -, htell⟩ := hpl; obtain ⟨hh, hha⟩ := htell name.data.toList; rw [HF.out] at hh hha; clear htell; have HOWN := Lib.hid (And.intro hown (And.intro hh hha)); clear hown hh hha; replace HM := Lib.hid (HM.out.next hb); replace HV := Lib.hid (HV.out.below hb); clear hb)
      | (at_lookup; refine wpList_lookup_own_ok_int _ rfl _ _ 74 rfl 9 3 .i64 strK Tryz.underlying74 Tryz.underlying3 (Bkp2.zeroI _) mb mk MD rfl HOWN.out.1 _ _ rfl HKEY.out ?_; intro c' hat hwc; have hc' := hat.symm.trans HOWN.out.2.2; simp only [DataW.lit.injEq, Lit.int.injEq, true_and] at hc'; subst hc'; rw [HOWN.out.2.1]; clear hat hwc; simp only [Option.isSome_some, Option.isSome_none, Option.getD_some, Option.getD_none])))
    refine Steady.region 10 (by kernel_rfl) (by kernel_rfl) (fun u => Below w.heap.size w u) (Below.refl _ _).drew ?_
    simp only [List.take_succ_cons, List.take_zero, List.drop_succ_cons, List.drop_zero]
    refine Steady.take ?_ rfl (by intro u hu; go_simp; with_reducible rfl) ?_
    simp only [Act.put, List.setIfInBounds_toArray, List.set_cons_zero, List.set_cons_succ]
    refine Steady.take (.slice (some ⟨g, o, none⟩) N c) rfl (fun u hu => Hold.load1_run (HM.out.next hu) 0 rfl rfl rfl (H5.out) (cellC)) ?_
    simp only [Act.put, List.setIfInBounds_toArray, List.set_cons_zero, List.set_cons_succ]
    refine Steady.take ?_ rfl (by intro u hu; go_simp; with_reducible rfl) ?_
    simp only [Act.put, List.setIfInBounds_toArray, List.set_cons_zero, List.set_cons_succ]
    refine Steady.take ?_ rfl (by intro u hu; go_simp; with_reducible rfl) ?_
    simp only [Act.put, List.setIfInBounds_toArray, List.set_cons_zero, List.set_cons_succ]
    refine Steady.take ?_ rfl (by intro u hu; go_simp; with_reducible rfl) ?_
    simp only [Act.put, List.setIfInBounds_toArray, List.set_cons_zero, List.set_cons_succ]
    refine Steady.take ?_ rfl (by intro u hu; have hcc := HCX.out u (HM.out.next hu).below; go_simp; with_reducible rfl) ?_
    simp only [Act.put, List.setIfInBounds_toArray, List.set_cons_zero, List.set_cons_succ]
    refine Steady.take ?_ rfl (by intro u hu; go_simp; with_reducible rfl) ?_
    simp only [Act.put, List.setIfInBounds_toArray, List.set_cons_zero, List.set_cons_succ]
    refine Steady.call _ _ _ rfl ?_ (Chn.keptIf (fun u hu => RF.out u)) ?_
    · intro u
      go_simp
    simp only [Act.put, List.setIfInBounds_toArray, List.set_cons_zero, List.set_cons_succ]
    refine Steady.take (.agg (v).toArray) rfl (fun u hu => Hold.load_run (HM.out.next hu) 0 rfl rfl rfl (Hold.Part.all _) (bkRowOf HV.out.len)) ?_
    simp only [Act.put, List.setIfInBounds_toArray, List.set_cons_zero, List.set_cons_succ]
    refine Steady.take ?_ rfl (by intro u hu; go_simp; with_reducible rfl) ?_
    simp only [Act.put, List.setIfInBounds_toArray, List.set_cons_zero, List.set_cons_succ]
    refine Steady.nil ?_
    intro w1 hb1
    replace HM := Lib.hid (HM.out.next hb1)
    replace HV := Lib.hid (HV.out.below hb1)
    clear hb1
    go_wp2_with ((first
      | ((with_reducible refine Hold.storeK HM.out 1 (v' := v) rfl rfl rfl rfl rfl (bkFits HV.out.len zero_len) (bkLaid HV.out.len zero_len) HV.out.one (bkRowOf HV.out.len) ?_); clear HM; intro w hbt HM; simp only [List.set_cons_zero, List.set_cons_succ] at HM; replace HM := Lib.hid HM; replace HV := Lib.hid (HV.out.storedA (i := 1) (z' := v) rfl hbt); simp only [List.set_cons_zero, List.set_cons_succ] at HV; clear hbt)))
    refine bodyPost_ret (Hold.resultsTC HM.out 1 rfl _ rfl rfl rfl (bkRowOf HV.out.len)) rfl ?_
    exact ⟨v, rfl, HV.out.doneA, HM.out.below⟩
  | none =>
    have hg := first_none _ _ _ hf
    rw [toC_ofC] at hg
    obtain ⟨X, hX⟩ : ∃ X, X = tx (srcS b name.data.toList n) := ⟨_, rfl⟩
    have hSS : S = tx (fit X.data.toList n) := by
      rw [hS, cellS, hg, hX]
      show tx (freshS b name.data.toList n) = tx (fit (srcS b name.data.toList n) n)
      rw [fit_src]
    have hSd : S.data.toList = freshS b name.data.toList n := by rw [hS, cellS, hg]
    obtain ⟨L, hL⟩ : ∃ L, L = put b.used name.data.toList S.data.toList := ⟨_, rfl⟩
    obtain ⟨M, hM⟩ : ∃ M, L.length = M := ⟨_, rfl⟩
    have hbb : b' = { b with used := L } := by rw [hb', cellB, hg, hL, hSd]
    have hLn : ∀ c ∈ L, c.1.length ≤ 1000000 := by rw [hL]; exact put_names h.names hs
    have RS := Lib.hid (fun u (hu : Below w0.heap.size w0 u) => source_any A b v name X n u hX (h.below hu) hro hs (hl.below hl.1 hu))
    have RF := Lib.hid (fun u => Tape.fit_all X n S u hSS)
    have RP := Lib.hid (fun u (hu : Below w0.heap.size w0 u) => Tape.put_any (ofC b.used) N a c name S L M u (by rw [toC_ofC]; exact hL) hM (hR'.below hu) hnK (by omega) hc)
    have HF := Lib.hid hf
    have HLN := Lib.hid hLn
    have HMM := Lib.hid hM
    have HBB := Lib.hid hbb
    have HLEN := Lib.hid h.len
    clear hS hb' h hro hs hl hkey h5 hn hc hR hR' hnK hzn hf hg hSS hX hL hM hbb hLn hSd
    go_enter Tryz.func26, Tryz.ntmps26
    go_upto_region 6 with ((first
      | ((with_reducible refine Hold.boxK HM.out rfl rfl rfl ?_); clear HM; intro b1 w hn hb HM; simp only [List.nil_append] at HM; replace HM := Lib.hid HM; replace HV := Lib.hid (HV.out.allocA (t := 30) (z := v) hn hb); simp only [List.nil_append] at HV; clear hn hb)
      | ((with_reducible refine Hold.allocK HM.out rfl rfl zeroBk zero_bk ?_); clear HM; intro b2 w hn hb HM; simp only [List.nil_append, List.cons_append] at HM; replace HM := Lib.hid HM; replace HV := Lib.hid (HV.out.allocA (t := 30) (z := zeroBk) hn hb); simp only [List.cons_append, List.nil_append] at HV; clear hn hb)
      | (with_reducible refine Hold.load1 HM.out 0 (c := .slice a N c) rfl rfl rfl rfl H5.out cellC ?_)
      | ((with_reducible refine (R1.out _ HM.out.below).mono ?_); rintro e w ⟨mb, rfl, hpl, hb⟩; obtain ⟨mk, MD, hown, -, htell⟩ := hpl; obtain ⟨hh, hha⟩ := htell name.data.toList; rw [HF.out] at hh hha; clear htell; have HOWN := Lib.hid (And.intro hown (And.intro hh hha)); clear hown hh hha; replace HM := Lib.hid (HM.out.next hb); replace HV := Lib.hid (HV.out.below hb); clear hb)
      | (at_lookup; refine wpList_lookup_own_ok_int _ rfl _ _ 74 rfl 9 3 .i64 strK Tryz.underlying74 Tryz.underlying3 (Bkp2.zeroI _) mb mk MD rfl HOWN.out.1 _ _ rfl HKEY.out ?_; intro c' hat hwc; have hc' := hat.symm.trans HOWN.out.2.2; simp only [DataW.lit.injEq, Lit.int.injEq, true_and] at hc'; subst hc'; rw [HOWN.out.2.1]; clear hat hwc; simp only [Option.isSome_some, Option.isSome_none, Option.getD_some, Option.getD_none])
      | (with_reducible refine Hold.load HM.out 0 (cs := v) rfl rfl rfl rfl (Hold.Part.all _) (bkRowOf HV.out.len) ?_)
      | ((with_reducible refine (RS.out _ HM.out.below).mono ?_); rintro e w ⟨rfl, hb⟩; replace HM := Lib.hid (HM.out.next hb); replace HV := Lib.hid (HV.out.below hb); clear hb)
      | ((with_reducible refine (RF.out _).mono ?_); rintro e w ⟨rfl, hb⟩; replace HM := Lib.hid (HM.out.next hb); replace HV := Lib.hid (HV.out.below hb); clear hb)
      | ((with_reducible refine (RP.out _ HM.out.below).mono ?_); rintro e w2 ⟨ao, co, rfl, hco, hR, hlow, hb⟩; replace HV := Lib.hid ((HV.out.below hb).set5 (lies_newA HM.out (HSZ.out _ HM.out.below) (R := CelRb) hR HMM.out hco hlow) HLN.out); replace HM := Lib.hid (HM.out.next hb); clear hR hco hlow hb)
      | ((with_reducible refine Hold.store1K HM.out 0 (c := .slice ao M co) (v' := v.set 5 (.slice ao M co)) rfl rfl rfl rfl rfl (by rw [HLEN.out]; decide) rfl (Hold.cell_sl _ _ _) cellC ?_); clear HM; intro w hbt HM; simp only [List.set_cons_zero, List.set_cons_succ] at HM; replace HM := Lib.hid HM; replace HV := Lib.hid (HV.out.storedA (i := 0) (z' := v.set 5 (.slice ao M co)) rfl hbt); simp only [List.set_cons_zero, List.set_cons_succ] at HV; clear hbt)))
    refine Steady.region 3 (by kernel_rfl) (by kernel_rfl) (fun u => Below w.heap.size w u) (Below.refl _ _).drew ?_
    simp only [List.take_succ_cons, List.take_zero, List.drop_succ_cons, List.drop_zero]
    refine Steady.take ?_ rfl (by intro u hu; go_simp; with_reducible rfl) ?_
    simp only [Act.put, List.setIfInBounds_toArray, List.set_cons_zero, List.set_cons_succ]
    refine Steady.take (.agg (v.set 5 (.slice ao M co)).toArray) rfl (fun u hu => Hold.load_run (HM.out.next hu) 0 rfl rfl rfl (Hold.Part.all _) (bkRowOf HV.out.len)) ?_
    simp only [Act.put, List.setIfInBounds_toArray, List.set_cons_zero, List.set_cons_succ]
    refine Steady.take ?_ rfl (by intro u hu; go_simp; with_reducible rfl) ?_
    simp only [Act.put, List.setIfInBounds_toArray, List.set_cons_zero, List.set_cons_succ]
    refine Steady.nil ?_
    intro w1 hb1
    replace HM := Lib.hid (HM.out.next hb1)
    replace HV := Lib.hid (HV.out.below hb1)
    clear hb1
    go_wp2_with ((first
      | ((with_reducible refine Hold.storeK HM.out 1 (v' := v.set 5 (.slice ao M co)) rfl rfl rfl rfl rfl (bkFits HV.out.len zero_len) (bkLaid HV.out.len zero_len) HV.out.one (bkRowOf HV.out.len) ?_); clear HM; intro w hbt HM; simp only [List.set_cons_zero, List.set_cons_succ] at HM; replace HM := Lib.hid HM; replace HV := Lib.hid (HV.out.storedA (i := 1) (z' := v.set 5 (.slice ao M co)) rfl hbt); simp only [List.set_cons_zero, List.set_cons_succ] at HV; clear hbt)))
    refine bodyPost_ret (Hold.resultsTC HM.out 1 rfl _ rfl rfl rfl (bkRowOf HV.out.len)) rfl ?_
    refine ⟨v.set 5 (.slice ao M co), rfl, ?_, HM.out.below⟩
    rw [HBB.out]
    exact HV.out.doneA
end Go.Proofs.YtolmfimpaofefaaGreatDoor.Bkb
