/-
  Read of package roster answers what the plain mathematics of the text RosB says, and leaves all memory that was there as it was. Conditions: the text has no more than 10^9 bytes.
-/
import Derived.Test.YtofnjonmfgdpaaaRosT
import Derived.Test.YtofnjonmfgdpaaaRosO
namespace Go.Proofs.Ytofnjonmfgdpaaa.Ros
open Go.RowKit Mur Prt Go.Maps
set_option maxRecDepth 100000

/-- What Read answers. -/
def ReadR (s : ByteArray) (w : World) (e : Ending) (w' : World) : Prop := ∃ (g : ByteArray) (sv cl : Int) (ab : Option Addr) (nb cb : Nat) (ag : Option Addr) (ng cg : Nat), e = .returned (.tuple #[.agg #[.string g, .int .i64 sv, .int .i64 cl, .slice ab nb cb, .slice ag ng cg], .int .i64 (errV (read s.data.toList))]) ∧ (∀ r, read s.data.toList = .ok r → RosR w' r g ab nb ag ng ∧ sv = r.servers ∧ cl = r.clients) ∧ Below w.heap.size w w'
theorem readR_no (s : ByteArray) (w w' : World) (y : Nat) (h : read s.data.toList = .error y) (hb : Below w.heap.size w w') : ReadR s w (.returned (.tuple #[.agg #[.string ⟨#[]⟩, .int .i64 0, .int .i64 0, .slice none 0 0, .slice none 0 0], .int .i64 (y : Int)])) w' :=
  ⟨⟨#[]⟩, 0, 0, none, 0, 0, none, 0, 0, by rw [h]; rfl, (fun r hr => by rw [h] at hr; cases hr), hb⟩
/-- The lists that are read so far. -/
structure Got (w : World) (B : Nat) (ls : List (List Nat)) (vs : List Value) : Prop where
  len : vs.length = ls.length
  at' : ∀ (k : Nat) (l : List Nat), ls[k]? = some l → ∃ ao c, vs[k]? = some (Value.slice ao l.length c) ∧ IntsR w ao (zl l) ∧ ∀ q, ao = some q → B ≤ q.block
  fits : ∀ l ∈ ls, l.length ≤ 255 ∧ ∀ z ∈ zl l, -9223372036854775808 ≤ z ∧ z ≤ 9223372036854775807
theorem Got.below {w w' : World} {B : Nat} {ls : List (List Nat)} {vs : List Value} (h : Got w B ls vs) (k : Below w.heap.size w w') : Got w' B ls vs :=
  ⟨h.len, fun i l hl => by obtain ⟨ao, c, h1, h2, h3⟩ := h.at' i l hl; exact ⟨ao, c, h1, h2.below k, h3⟩, h.fits⟩
theorem Got.set {w : World} {B : Nat} {ls : List (List Nat)} {vs : List Value} (h : Got w B ls vs) (p : Addr) (v : Value) (hp : p.block < B) : Got (w.setCell p v) B ls vs :=
  ⟨h.len, fun i l hl => by
    obtain ⟨ao, c, h1, h2, h3⟩ := h.at' i l hl
    exact ⟨ao, c, h1, ints_set h2 p v (fun q hq => by have := h3 q hq; omega), h3⟩, h.fits⟩
theorem Got.snoc {w : World} {B : Nat} {ls : List (List Nat)} {vs : List Value} (h : Got w B ls vs) (l : List Nat) (ao : Option Addr) (c : Nat) (hi : IntsR w ao (zl l)) (hf : ∀ q, ao = some q → B ≤ q.block) (hz : l.length ≤ 255 ∧ ∀ z ∈ zl l, -9223372036854775808 ≤ z ∧ z ≤ 9223372036854775807) : Got w B (ls ++ [l]) (vs ++ [Value.slice ao l.length c]) := by
  refine ⟨by simp [h.len], fun k x hx => ?_, fun x hx => ?_⟩
  · rcases Nat.lt_or_ge k ls.length with hk | hk
    · rw [List.getElem?_append_left hk] at hx
      obtain ⟨a, c', h1, h2, h3⟩ := h.at' k x hx
      exact ⟨a, c', by rw [List.getElem?_append_left (by rw [h.len]; exact hk)]; exact h1, h2, h3⟩
    · rw [List.getElem?_append_right hk] at hx
      obtain ⟨d, rfl⟩ : ∃ d, k = ls.length + d := ⟨k - ls.length, by omega⟩
      rw [Nat.add_sub_cancel_left] at hx
      match d, hx with
      | 0, hx => cases hx; exact ⟨ao, c, by rw [List.getElem?_append_right (by rw [h.len]; omega), h.len]; simp, hi, hf⟩
  · rcases List.mem_append.1 hx with hx | hx
    · exact h.fits x hx
    · obtain rfl : x = l := by simpa using hx
      exact hz
theorem got_none (w : World) (B : Nat) : Got w B [] [] := ⟨rfl, (fun k l h => by simp at h), (fun l h => by cases h)⟩

set_option maxHeartbeats 3200000 in
theorem read_any (s : ByteArray) (w : World) (hs : s.size ≤ 1000000000) :
    Calls Try.prog 15 #[.string s] w (ReadR s w) := by
  have R1 := Lib.hid (fun (V : ByteArray) (B E : Int) (hV : V = strV (readStr s.data.toList 0)) (hB : B = posV (readStr s.data.toList 0)) (hE : E = errV (readStr s.data.toList 0)) (u : World) => readStr_any s 0 u V B E hV hB hE (by omega) (by omega) hs)
  have RL := Lib.hid (fun (q : Nat) (hq : q ≤ 1000000000) (L : List Nat) (B E : Int) (hL : L = listV (readAll readNum s.data.toList (q : Int))) (hB : B = posV (readAll readNum s.data.toList (q : Int))) (hE : E = errV (readAll readNum s.data.toList (q : Int))) (u : World) => readnums_any s (q : Int) u L B E hL hB hE (by omega) (by omega) hs)
  have hY := five_made w 24 (.string ⟨#[]⟩) (.int .i64 0) (.int .i64 0) (.slice none 0 0) (.slice none 0 0)
  have hB0 := (Below.refl w.heap.size w).alloc (Nat.le_refl _) (.cells #[.string ⟨#[]⟩, .int .i64 0, .int .i64 0, .slice none 0 0, .slice none 0 0] 24)
  go_enter Try.func15, Try.ntmps15
  go_upto_region 1 with (fail)
  generalize w.alloc (.cells #[.string ⟨#[]⟩, .int .i64 0, .int .i64 0, .slice none 0 0, .slice none 0 0] 24) = w0 at *
  have HY := Lib.hid hY
  have HB0 := Lib.hid hB0
  clear hY hB0
  cases hst : readStr s.data.toList 0 with
  | error y =>
    have hre := read_error _ _ hst
    have hy := readStr_err _ _ _ hst
    have hne : ((y : Int) != 0) = true := by simp; omega
    have R1e := Lib.hid (fun u => R1.out ⟨#[]⟩ 0 (y : Int) (by rw [hst]; rfl) (by rw [hst]; rfl) (by rw [hst]; rfl) u)
    have HRE := Lib.hid hre
    clear hre hst hy
    go_wp2_with fail
    refine (R1e.out _).mono ?_
    rintro e w1 ⟨rfl, hb1⟩
    have HY1 := Lib.hid (HY.out.below HY.out.lt hb1)
    have HB1 := Lib.hid (HB0.out.trans (hb1.mono HB0.out.size))
    clear hb1
    obtain ⟨d0, d1, d2, d3, d4⟩ := five_cells HY1.out
    obtain ⟨e0, e1, e2, e3, e4⟩ := five_free HY1.out
    go_wp2
    exact bodyPost_ret (results_ct (c := .int .i64 (y : Int)) rfl _ rfl rfl rosRow (five_set HY1.out (.string ⟨#[]⟩) (.int .i64 0) (.int .i64 0) (.slice none 0 0) (.slice none 0 0)).range) rfl (readR_no s w _ y HRE.out (below_five HB1.out _ (Nat.le_refl _) _ _ _ _ _))
  | ok gp =>
    obtain ⟨gl, p⟩ := gp
    have hrt := read_told _ _ _ hst
    obtain ⟨f1, f2, f3, f4, -⟩ := readStr_facts _ _ _ _ hst
    have hp : p ≤ s.size := f3
    obtain ⟨G, hG⟩ : ∃ G, G = tx gl := ⟨_, rfl⟩
    have R1o := Lib.hid (fun u => R1.out G (p : Int) 0 (by rw [hst, hG]; rfl) (by rw [hst]; rfl) (by rw [hst]; rfl) u)
    have HRT := Lib.hid hrt
    have HG := Lib.hid hG
    have HGL := Lib.hid f4
    have hne : ((0 : Int) != 0) = false := by simp
    clear hrt hst f1 f2 f3 f4 hG
    go_wp2_with fail
    refine (R1o.out _).mono ?_
    rintro e w1 ⟨rfl, hb1⟩
    have HY1 := Lib.hid (HY.out.below HY.out.lt hb1)
    have HB1 := Lib.hid (HB0.out.trans (hb1.mono HB0.out.size))
    have HS1 := Lib.hid (show w.heap.size < w1.heap.size from Nat.lt_of_lt_of_le HY.out.lt hb1.size)
    clear hb1 HY HB0
    go_upto_region 5 with (fail)
    have h7 : Mur.Whole (w1.alloc (.cells #[.slice none 0 0, .slice none 0 0, .slice none 0 0] 61)) w1.heap.size 61 (List.replicate 3 (.slice none 0 0)) := Mur.Whole.made w1 61 [.slice none 0 0, .slice none 0 0, .slice none 0 0]
    have hY2 := HY1.out.alloc (.cells #[.slice none 0 0, .slice none 0 0, .slice none 0 0] 61)
    have hB2 := HB1.out.alloc HB1.out.size (.cells #[.slice none 0 0, .slice none 0 0, .slice none 0 0] 61)
    have hs2 : (w1.alloc (.cells #[.slice none 0 0, .slice none 0 0, .slice none 0 0] 61)).heap.size = w1.heap.size + 1 := by simp
    generalize w1.alloc (.cells #[.slice none 0 0, .slice none 0 0, .slice none 0 0] 61) = w2 at *
    have H7 := Lib.hid h7
    have HY2 := Lib.hid hY2
    have HB2 := Lib.hid hB2
    have HS2 := Lib.hid hs2
    clear h7 hY2 hB2 hs2 HY1 HB1
    obtain ⟨b7, hb7⟩ : ∃ b7, b7 = w1.heap.size := ⟨_, rfl⟩
    rw [← hb7] at H7 HS2 HS1 ⊢
    clear hb7
    go_upto_region 6 with (fail)
    go_loopw [5, 6, 22] (fun at_ er i wr => ∃ (j q : Nat) (ls : List (List Nat)) (vs : List Value), j ≤ 3 ∧ i = .int .i64 j ∧ at_ = .int .i64 q ∧ er = .int .i64 0 ∧ q ≤ s.size ∧ ls.length = j ∧ Got wr (b7 + 1) ls vs ∧ Mur.Whole wr b7 61 (vs ++ List.replicate (3 - j) (.slice none 0 0)) ∧ Mur.Whole wr w.heap.size 24 [.string ⟨#[]⟩, .int .i64 0, .int .i64 0, .slice none 0 0, .slice none 0 0] ∧ read s.data.toList = told s.data.toList gl (front ls (lists s.data.toList (3 - j) q)) ∧ b7 + 1 ≤ wr.heap.size ∧ Below w.heap.size w wr) (fun _ _ i _ => 3 - (intOf i).toNat)
    case atStart => exact ⟨0, p, [], [], by omega, rfl, rfl, rfl, hp, rfl, got_none _ _, H7.out, HY2.out, by rw [HRT.out, front_nil], by rw [HS2.out]; exact Nat.le_refl _, HB2.out⟩
    case round =>
      clear H7 HY2 HB2 HS2
      obtain ⟨j, q, ls, vs, hj, rfl, rfl, rfl, hq, hlen, hgot, h7, hy, hrd, hsz, hbel⟩ := hrel
      have H7 := Lib.hid h7
      have HY := Lib.hid hy
      have HGOT := Lib.hid hgot
      have HLEN := Lib.hid hlen
      have HRD := Lib.hid hrd
      have HSZ := Lib.hid hsz
      have HW := Lib.hid hbel
      clear h7 hy hgot hlen hrd hsz hbel
      by_cases hlt : j < 3
      · obtain ⟨d, hd⟩ : ∃ d, 3 - j = d + 1 := ⟨3 - j - 1, by omega⟩
        have hjl : j < (vs ++ List.replicate (3 - j) (Value.slice none 0 0)).length := by rw [List.length_append, HGOT.out.len, HLEN.out, List.length_replicate]; omega
        have HJL := Lib.hid hjl
        cases hrx : readAll readNum s.data.toList (q : Int) with
        | error y =>
          have hre : read s.data.toList = .error y := by rw [HRD.out, hd, lists_error _ _ _ y hrx]; rfl
          have hy := readAll_err _ _ _ hrx
          have hne2 : ((y : Int) != 0) = true := by simp; omega
          have R2 := Lib.hid (fun u => RL.out q (Nat.le_trans hq hs) [] 0 (y : Int) (by rw [hrx]; rfl) (by rw [hrx]; rfl) (by rw [hrx]; rfl) u)
          have HRE := Lib.hid hre
          clear hre hy hrx hd hjl
          go_wp2_with fail
          refine (R2.out _).mono ?_
          rintro e w4 ⟨ao, c, rfl, -, -, hb4⟩
          have h74 := H7.out.below H7.out.lt hb4
          have hf := h74.row.free (i := j) HJL.out
          have hc := h74.row.cell (i := j) (List.getElem?_eq_getElem HJL.out)
          have hy4 := (HY.out.below HY.out.lt hb4).other b7 j (.slice ao 0 c) (by have := HS1.out; omega)
          have HB4 := Lib.hid ((HW.out.trans (hb4.mono HW.out.size)).setCell (p := ⟨b7, j, none⟩) (by have := HS1.out; show w.heap.size ≤ b7; omega) (.slice ao 0 c))
          obtain ⟨d0, d1, d2, d3, d4⟩ := five_cells hy4
          obtain ⟨e0, e1, e2, e3, e4⟩ := five_free hy4
          have HY4 := Lib.hid hy4
          clear hb4 h74 hy4
          go_wp2
          exact bodyPost_ret (results_ct (c := .int .i64 (y : Int)) rfl _ rfl rfl rosRow (five_set HY4.out (.string ⟨#[]⟩) (.int .i64 0) (.int .i64 0) (.slice none 0 0) (.slice none 0 0)).range) rfl (readR_no s w _ y HRE.out (below_five HB4.out _ (Nat.le_refl _) _ _ _ _ _))
        | ok xr =>
          obtain ⟨x, q1⟩ := xr
          have hfit := read_fits _ _ _ _ hrx
          have hq1 : q1 ≤ s.size := hfit.2.2
          have hrn : read s.data.toList = told s.data.toList gl (front (ls ++ [x]) (lists s.data.toList (3 - (j + 1)) q1)) := by
            have e : 3 - (j + 1) = d := by omega
            rw [HRD.out, hd, lists_ok _ _ _ q1 x hrx, front_front, e]
          have R2 := Lib.hid (fun u => RL.out q (Nat.le_trans hq hs) x (q1 : Int) 0 (by rw [hrx]; rfl) (by rw [hrx]; rfl) (by rw [hrx]; rfl) u)
          have HRN := Lib.hid hrn
          have HFIT := Lib.hid hfit
          have hne2 : ((0 : Int) != 0) = false := by simp
          obtain ⟨M, hM⟩ : ∃ M, M = x.length := ⟨_, rfl⟩
          rw [← hM] at R2
          have HM := Lib.hid hM
          clear hrn hrx hd hjl hfit hM
          go_wp2_with fail
          refine (R2.out _).mono ?_
          rintro e w4 ⟨ao, c, rfl, hi4, hf4, hb4⟩
          have h74 := H7.out.below H7.out.lt hb4
          have hf := h74.row.free (i := j) HJL.out
          have hc := h74.row.cell (i := j) (List.getElem?_eq_getElem HJL.out)
          have H75 := Lib.hid (h74.set j (.slice ao M c))
          have HY5 := Lib.hid ((HY.out.below HY.out.lt hb4).other b7 j (.slice ao M c) (by have := HS1.out; omega))
          have HB5 := Lib.hid ((HW.out.trans (hb4.mono HW.out.size)).setCell (p := ⟨b7, j, none⟩) (by have := HS1.out; show w.heap.size ≤ b7; omega) (.slice ao M c))
          have HG5 := Lib.hid (((HGOT.out.below hb4).snoc x ao c hi4 (fun q hq => by have := hf4 q hq; have := HSZ.out; omega) ⟨HFIT.out.1, HFIT.out.2.1⟩).set ⟨b7, j, none⟩ (.slice ao M c) (Nat.lt_succ_self _))
          have HS5 := Lib.hid (show b7 + 1 ≤ (w4.setCell ⟨b7, j, none⟩ (.slice ao M c)).heap.size by have := HSZ.out; have := hb4.size; simp; omega)
          clear hb4 h74 hi4 hf4
          go_wp2
          go_roundw
          case rel => exact ⟨j + 1, q1, ls ++ [x], vs ++ [.slice ao x.length c], by omega, by go_num, rfl, rfl, hq1, by rw [List.length_append, HLEN.out]; rfl, HG5.out, by
            have := H75.out
            rw [set_next vs (.slice none 0 0) (.slice ao M c) 3 j (by rw [HGOT.out.len, HLEN.out]) hlt, HM.out] at this
            rw [HM.out]
            exact this, HY5.out, HRN.out, HS5.out, HB5.out⟩
          case measure => simp [intOf]; omega
      · obtain rfl : j = 3 := by omega
        obtain ⟨two, bs, gs, rfl⟩ : ∃ two bs gs, ls = [two, bs, gs] := by
          match ls, HLEN.out with
          | [two, bs, gs], _ => exact ⟨two, bs, gs, rfl⟩
        obtain ⟨a0, k0, hv0, hi0, hf0⟩ := HGOT.out.at' 0 two rfl
        obtain ⟨a1, k1, hv1, hi1, hf1⟩ := HGOT.out.at' 1 bs rfl
        obtain ⟨a2, k2, hv2, hi2, hf2⟩ := HGOT.out.at' 2 gs rfl
        have hz1 := HGOT.out.fits bs (by simp)
        have hz2 := HGOT.out.fits gs (by simp)
        have hz0 := HGOT.out.fits two (by simp)
        have hve : vs = [.slice a0 two.length k0, .slice a1 bs.length k1, .slice a2 gs.length k2] := by
          have hl := HGOT.out.len
          match vs, hl, hv0, hv1, hv2 with
          | [x, y, z], _, hv0, hv1, hv2 => cases hv0; cases hv1; cases hv2; rfl
        have hrd : read s.data.toList = told s.data.toList gl (.ok ([two, bs, gs], q)) := HRD.out
        have h7 := H7.out
        rw [hve] at h7
        have c0 : wr.cell? ⟨b7, 0, none⟩ = some (.slice a0 two.length k0) := h7.row.cell rfl
        have c1 : wr.cell? ⟨b7, 1, none⟩ = some (.slice a1 bs.length k1) := h7.row.cell rfl
        have c2 : wr.cell? ⟨b7, 2, none⟩ = some (.slice a2 gs.length k2) := h7.row.cell rfl
        have hlt7 : b7 < wr.heap.size := h7.lt
        obtain ⟨m0, hm0⟩ : ∃ m, m = two.length := ⟨_, rfl⟩
        obtain ⟨m1, hm1⟩ : ∃ m, m = bs.length := ⟨_, rfl⟩
        obtain ⟨m2, hm2⟩ : ∃ m, m = gs.length := ⟨_, rfl⟩
        rw [← hm0] at c0
        rw [← hm1] at c1
        rw [← hm2] at c2
        have HV := Lib.hid hve
        have HRD2 := Lib.hid hrd
        have HI0 := Lib.hid hi0
        have HI1 := Lib.hid hi1
        have HI2 := Lib.hid hi2
        have HF1 := Lib.hid hf1
        have HF2 := Lib.hid hf2
        have HZ0 := Lib.hid hz0
        have HZ1 := Lib.hid hz1
        have HZ2 := Lib.hid hz2
        have HM0 := Lib.hid hm0
        have HM1 := Lib.hid hm1
        have HM2 := Lib.hid hm2
        clear h7 hve hrd hi0 hi1 hi2 hf0 hf1 hf2 hz0 hz1 hz2 hm0 hm1 hm2 hv0 hv1 hv2 H7 HRD HGOT HLEN RL R1 R1o
        obtain ⟨d0, d1, d2, d3, d4⟩ := five_cells HY.out
        obtain ⟨e0, e1, e2, e3, e4⟩ := five_free HY.out
        by_cases hend : q = s.size
        · by_cases h2 : m0 = 2
          · have hdq : decide ((q : Int) < (s.size : Int)) = false := decide_eq_false (by omega)
            have hdq2 : decide (q < s.size) = false := decide_eq_false (by omega)
            subst h2
            obtain ⟨x, y, hxy⟩ : ∃ x y, two = [x, y] := by
              match two, HM0.out with
              | [x, y], _ => exact ⟨x, y, rfl⟩
            subst hxy
            obtain ⟨bm, om, rfl, hbm, hcm⟩ := HI0.out (fun h => by cases h)
            have cx : wr.cell? ⟨bm, om, none⟩ = some (.int .i64 (x : Int)) := hcm 0 (x : Int) rfl
            have cy : wr.cell? ⟨bm, om + 1, none⟩ = some (.int .i64 (y : Int)) := hcm 1 (y : Int) rfl
            clear hcm
            go_upto_region 15 with (fail)
            go_region
            obtain ⟨r, hr⟩ : ∃ r, r = ros gl [x, y] bs gs := ⟨_, rfl⟩
            have hsv : r.servers = (x : Int) := by rw [hr]; rfl
            have hcl : r.clients = (y : Int) := by rw [hr]; rfl
            have hx0 := HZ0.out.2 (x : Int) (by simp [zl])
            have hy0 := HZ0.out.2 (y : Int) (by simp [zl])
            have hro : RosR wr r G a1 m1 a2 m2 := ⟨by rw [HG.out, hr]; rfl, by rw [hr]; exact HI1.out, by rw [hr, HM1.out]; exact zl_length bs, by rw [hr]; exact HI2.out, by rw [hr, HM2.out]; exact zl_length gs, by rw [HG.out, tx_size]; have := HGL.out; omega, by rw [hsv]; exact hx0, by rw [hcl]; exact hy0, by rw [hr]; exact HZ1.out.2, by rw [hr]; exact HZ2.out.2, by rw [HM1.out]; have := HZ1.out.1; omega, by rw [HM2.out]; have := HZ2.out.1; omega⟩
            have hrd2 : read s.data.toList = if right r = true then .ok r else .error 3 := by
              rw [HRD2.out, told, hr]
              by_cases hri : right (ros gl [x, y] bs gs) = true
              · rw [if_pos ⟨hend, rfl, hri⟩, if_pos hri]
                rfl
              · rw [if_neg hri, if_neg (fun h => hri h.2.2)]
            obtain ⟨b, hb⟩ : ∃ b, b = right r := ⟨_, rfl⟩
            have R5 := Lib.hid (fun (u : World) (hu : RosR u r G a1 m1 a2 m2) => right_any r b G a1 a2 m1 k1 m2 k2 u hb hu)
            rw [hsv, hcl] at R5
            have hX := (five_made wr 24 (.string G) (.int .i64 (x : Int)) (.int .i64 (y : Int)) (.slice a1 m1 k1) (.slice a2 m2 k2)).drew
            have hb5 : Below wr.heap.size wr (wr.alloc (.cells #[.string G, .int .i64 (x : Int), .int .i64 (y : Int), .slice a1 m1 k1, .slice a2 m2 k2] 24)).drew := ((Below.refl _ _).alloc (Nat.le_refl _) _).drew
            have HRO := Lib.hid hro
            have HRD3 := Lib.hid hrd2
            have HBR := Lib.hid hb
            have HSV := Lib.hid hsv
            have HCL := Lib.hid hcl
            clear hr hsv hcl hx0 hy0 hro hrd2 hb HZ0 HI0 HRD2 c0 c1 c2 cx cy d0 d1 d2 d3 d4 e0 e1 e2 e3 e4
            generalize (wr.alloc (.cells #[.string G, .int .i64 (x : Int), .int .i64 (y : Int), .slice a1 m1 k1, .slice a2 m2 k2] 24)).drew = w5 at *
            have HX := Lib.hid hX
            have HB5 := Lib.hid hb5
            clear hX hb5
            obtain ⟨c0, c1, c2, c3, c4⟩ := five_cells HX.out
            go_wp2_with fail
            refine (R5.out _ (HRO.out.below HB5.out)).mono ?_
            rintro e w6 ⟨rfl, hb6⟩
            have HB6 := Lib.hid (HB5.out.trans (hb6.mono HB5.out.size))
            have HX6 := Lib.hid (HX.out.below HX.out.lt hb6)
            clear hb6 c0 c1 c2 c3 c4
            have HY6 := Lib.hid (HY.out.below HY.out.lt HB6.out)
            have HW6 := Lib.hid (HW.out.trans (HB6.out.mono HW.out.size))
            obtain ⟨c0, c1, c2, c3, c4⟩ := five_cells HX6.out
            obtain ⟨d0, d1, d2, d3, d4⟩ := five_cells HY6.out
            obtain ⟨e0, e1, e2, e3, e4⟩ := five_free HY6.out
            cases b with
            | false =>
              have hre : read s.data.toList = .error 3 := by rw [HRD3.out, if_neg (by rw [← HBR.out]; simp)]
              have HRE := Lib.hid hre
              clear hre
              go_wp2
              exact bodyPost_ret (results_ct (c := .int .i64 3) rfl _ rfl rfl rosRow (five_set HY6.out (.string ⟨#[]⟩) (.int .i64 0) (.int .i64 0) (.slice none 0 0) (.slice none 0 0)).range) rfl (readR_no s w _ 3 HRE.out (below_five HW6.out _ (Nat.le_refl _) _ _ _ _ _))
            | true =>
              have hre : read s.data.toList = .ok r := by rw [HRD3.out, if_pos HBR.out.symm]
              have hro6 := HRO.out.below HB6.out
              have HRZ := Lib.hid (hro6.moved (l := r.gone) (ints_five hro6.buds w.heap.size (.string G) (.int .i64 (x : Int)) (.int .i64 (y : Int)) (.slice a1 m1 k1) (.slice a2 m2 k2) (fun q hq => by have k1 := HF1.out q hq; have := HS1.out; omega)) (ints_five hro6.gones w.heap.size (.string G) (.int .i64 (x : Int)) (.int .i64 (y : Int)) (.slice a1 m1 k1) (.slice a2 m2 k2) (fun q hq => by have k1 := HF2.out q hq; have := HS1.out; omega)) hro6.ngones hro6.fewG hro6.fitG)
              have HRE := Lib.hid hre
              clear hre hro6
              go_wp2
              exact bodyPost_ret (results_ct (c := .int .i64 0) rfl _ rfl rfl rosRow (five_set HY6.out (.string G) (.int .i64 (x : Int)) (.int .i64 (y : Int)) (.slice a1 m1 k1) (.slice a2 m2 k2)).range) rfl ⟨G, (x : Int), (y : Int), a1, m1, k1, a2, m2, k2, by rw [HRE.out]; rfl, (fun r' hr' => by rw [HRE.out] at hr'; cases hr'; exact ⟨HRZ.out, HSV.out.symm, HCL.out.symm⟩), below_five HW6.out _ (Nat.le_refl _) _ _ _ _ _⟩
          · have hre : read s.data.toList = .error 3 := by
              rw [HRD2.out, told, if_neg]
              rintro ⟨-, h3, -⟩
              exact h2 (HM0.out.trans h3)
            have hdq : decide ((q : Int) < (s.size : Int)) = false := decide_eq_false (by omega)
            have hdq2 : decide (q < s.size) = false := decide_eq_false (by omega)
            have hm2 : (((m0 : Int)) != 2) = true := by simp; omega
            have HRE := Lib.hid hre
            clear hre
            go_wp2
            exact bodyPost_ret (results_ct (c := .int .i64 3) rfl _ rfl rfl rosRow (five_set HY.out (.string ⟨#[]⟩) (.int .i64 0) (.int .i64 0) (.slice none 0 0) (.slice none 0 0)).range) rfl (readR_no s w _ 3 HRE.out (below_five HW.out _ (Nat.le_refl _) _ _ _ _ _))
        · have hre : read s.data.toList = .error 3 := by
            rw [HRD2.out, told, if_neg]
            rintro ⟨h3, -, -⟩
            exact hend h3
          have hdq : decide ((q : Int) < (s.size : Int)) = true := decide_eq_true (by omega)
          have hdq2 : decide (q < s.size) = true := decide_eq_true (by omega)
          have HRE := Lib.hid hre
          clear hre
          go_wp2
          exact bodyPost_ret (results_ct (c := .int .i64 3) rfl _ rfl rfl rosRow (five_set HY.out (.string ⟨#[]⟩) (.int .i64 0) (.int .i64 0) (.slice none 0 0) (.slice none 0 0)).range) rfl (readR_no s w _ 3 HRE.out (below_five HW.out _ (Nat.le_refl _) _ _ _ _ _))
end Go.Proofs.Ytofnjonmfgdpaaa.Ros
