/-
  Print of package roster answers what the plain mathematics of the text RosB says, and leaves all memory that was there as it was. Conditions: RosR.
-/
import Derived.Test.YtofnjonmfgdpaaaRosF
import Derived.Test.YtofnjonmfgdpaaaRosI
namespace Go.Proofs.Ytofnjonmfgdpaaa.Ros
open Go.RowKit Mur Prt Go.Maps
set_option maxRecDepth 100000

/-- Lists laid one behind the other. -/
def layFrom : List (List Int) → Except Nat (List UInt8)
  | [] => .ok []
  | l :: ls => glue (layAll num l) (layFrom ls)
def parts (r : R) : List (List Int) := [[r.servers, r.clients], r.buddies, r.gone]
theorem ahead_last (x : List UInt8) : Prt.ahead x (.ok []) = .ok x := by rw [Prt.ahead_ok, List.append_nil]
theorem lay_from (r : R) (a : List UInt8) (h : str r.group = .ok a) : lay r = Prt.ahead a (layFrom (parts r)) := by
  have e : glue (layAll num r.gone) (.ok []) = layAll num r.gone := by
    cases hg : layAll num r.gone with
    | error y => rfl
    | ok x => rw [glue_ok, ahead_last]
  unfold lay parts
  rw [h, glue_ok, layFrom, layFrom, layFrom, layFrom, e]
theorem from_ok (rows : List (List Int)) (j : Nat) (L : List Int) (a b : List UInt8) (hL : rows[j]? = some L) (h : layAll num L = .ok b) : Prt.ahead a (layFrom (rows.drop j)) = Prt.ahead (a ++ b) (layFrom (rows.drop (j + 1))) := by
  obtain ⟨hj, rfl⟩ := List.getElem?_eq_some_iff.1 hL
  rw [List.drop_eq_getElem_cons hj, layFrom, h, glue_ok, Prt.ahead_ahead]
theorem from_error (rows : List (List Int)) (j : Nat) (L : List Int) (a : List UInt8) (e : Nat) (hL : rows[j]? = some L) (h : layAll num L = .error e) : Prt.ahead a (layFrom (rows.drop j)) = .error e := by
  obtain ⟨hj, rfl⟩ := List.getElem?_eq_some_iff.1 hL
  rw [List.drop_eq_getElem_cons hj, layFrom, h, glue_error, Prt.ahead_error]
theorem each_size (l : List Int) : ∀ b, each num l = .ok b → b.length ≤ 6002 * l.length := by
  induction l with
  | nil => intro b h; rw [each_nil] at h; cases h; simp
  | cons x l ih =>
    intro b h
    cases hx : num x with
    | error e => rw [each_error num x l e hx] at h; cases h
    | ok a =>
      rw [each_ok num x l a hx] at h
      cases hl : each num l with
      | error e => rw [hl] at h; cases h
      | ok c =>
        rw [hl] at h
        cases h
        have h1 := num_size x a hx
        have h2 := ih c hl
        rw [List.length_append, List.length_cons]
        omega
theorem lay_size (l : List Int) (b : List UInt8) (h : layAll num l = .ok b) : b.length ≤ 2000000 := by
  unfold layAll at h
  split at h
  · cases h
  · cases hl : each num l with
    | error e => rw [hl] at h; cases h
    | ok c =>
      rw [hl] at h
      cases h
      have := each_size l c hl
      rw [List.length_append, high_length]
      omega
theorem each_err (l : List Int) : ∀ e, each num l = .error e → e ≠ 0 := by
  induction l with
  | nil => intro e h; rw [each_nil] at h; cases h
  | cons x l ih =>
    intro e h
    cases hx : num x with
    | error y =>
      rw [each_error num x l y hx] at h
      cases h
      have := num_err x e hx
      omega
    | ok a =>
      rw [each_ok num x l a hx] at h
      cases hl : each num l with
      | error y => rw [hl, Prt.ahead_error] at h; cases h; exact ih e hl
      | ok c => rw [hl] at h; cases h
theorem lay_err (l : List Int) (e : Nat) (h : layAll num l = .error e) : e ≠ 0 := by
  unfold layAll at h
  split at h
  · cases h; omega
  · cases hl : each num l with
    | error y => rw [hl, Prt.ahead_error] at h; cases h; exact each_err l e hl
    | ok c => rw [hl] at h; cases h

theorem rows_print (u : World) (s c : Int) (l1 l2 : List Int) (a1 a2 : Option Addr) (n1 n2 c1 c2 : Nat) (t t2 : TypeId) (h1 : l1.length = n1) (h2 : l2.length = n2) (i1 : IntsR u a1 l1) (i2 : IntsR u a2 l2) :
    RowsR ((u.alloc (.cells #[.int .i64 s, .int .i64 c] t)).alloc (.cells #[.slice (some ⟨u.heap.size, 0, none⟩) 2 2, .slice a1 n1 c1, .slice a2 n2 c2] t2)) (u.heap.size + 1) [[s, c], l1, l2] := by
  have s1 : (u.alloc (.cells #[.int .i64 s, .int .i64 c] t)).heap.size = u.heap.size + 1 := by simp
  have hw : Mur.Whole ((u.alloc (.cells #[.int .i64 s, .int .i64 c] t)).alloc (.cells #[.slice (some ⟨u.heap.size, 0, none⟩) 2 2, .slice a1 n1 c1, .slice a2 n2 c2] t2)) (u.heap.size + 1) t2 [.slice (some ⟨u.heap.size, 0, none⟩) 2 2, .slice a1 n1 c1, .slice a2 n2 c2] := by
    have := Mur.Whole.made (u.alloc (.cells #[.int .i64 s, .int .i64 c] t)) t2 [.slice (some ⟨u.heap.size, 0, none⟩) 2 2, .slice a1 n1 c1, .slice a2 n2 c2]
    rw [s1] at this
    exact this
  have hb : Below u.heap.size u ((u.alloc (.cells #[.int .i64 s, .int .i64 c] t)).alloc (.cells #[.slice (some ⟨u.heap.size, 0, none⟩) 2 2, .slice a1 n1 c1, .slice a2 n2 c2] t2)) := ((Below.refl _ _).alloc (Nat.le_refl _) _).alloc (by simp) _
  have hi : IntsR (u.alloc (.cells #[.int .i64 s, .int .i64 c] t)) (some ⟨u.heap.size, 0, none⟩) [s, c] := fun _ => ⟨u.heap.size, 0, rfl, by simp, fun i x hx => by
    match i, hx with
    | 0, hx => cases hx; simp [World.cell?_alloc_new]
    | 1, hx => cases hx; simp [World.cell?_alloc_new]⟩
  refine ⟨hw.lt, fun j L hL => ?_⟩
  match j, hL with
  | 0, hL => cases hL; exact ⟨_, 2, hw.row.cell rfl, hi.below ((Below.refl _ _).alloc (Nat.le_refl _) _)⟩
  | 1, hL => cases hL; exact ⟨a1, c1, by rw [h1]; exact hw.row.cell rfl, i1.below hb⟩
  | 2, hL => cases hL; exact ⟨a2, c2, by rw [h2]; exact hw.row.cell rfl, i2.below hb⟩
theorem RowsR.below {w w' : World} {bx : Nat} {rows : List (List Int)} (h : RowsR w bx rows) (k : Below w.heap.size w w') : RowsR w' bx rows := by
  refine ⟨Nat.lt_of_lt_of_le h.1 k.size, fun j L hL => ?_⟩
  obtain ⟨ao, c, h1, h2⟩ := h.2 j L hL
  exact ⟨ao, c, (k.cell (p := ⟨bx, j, none⟩) h.1).trans h1, h2.below k⟩

set_option maxHeartbeats 3200000 in
theorem print_any (r : R) (X : ByteArray) (E : Int) (g : ByteArray) (ab ag : Option Addr) (nb cb ng cg : Nat) (w : World) (hX : X = layX (print r)) (hE : E = errV (print r)) (h : RosR w r g ab nb ag ng) :
    Calls Try.prog 14 #[.agg #[.string g, .int .i64 r.servers, .int .i64 r.clients, .slice ab nb cb, .slice ag ng cg]] w fun e w' => e = .returned (.tuple #[.string X, .int .i64 E]) ∧ Below w.heap.size w w' := by
  have HX := Lib.hid (box_five w (.string g) (.int .i64 r.servers) (.int .i64 r.clients) (.slice ab nb cb) (.slice ag ng cg) 24)
  have HR := Lib.hid (h.below HX.out.1)
  obtain ⟨b, hb⟩ : ∃ b, b = right r := ⟨_, rfl⟩
  have R1 := Lib.hid (fun (u : World) (hu : RosR u r g ab nb ag ng) => right_any r b g ab ag nb cb ng cg u hb hu)
  have R2 := Lib.hid (fun (Y : ByteArray) (F : Int) (hY : Y = layX (str r.group)) (hF : F = errV (str r.group)) (u : World) => str_any g u Y F (by rw [h.group]; exact hY) (by rw [h.group]; exact hF) h.fitN)
  have RN := Lib.hid (fun (L : List Int) (hL : L ∈ parts r) (a : Option Addr) (c : Nat) (Y : ByteArray) (F : Int) (hY : Y = layX (layAll num L)) (hF : F = errV (layAll num L)) (u : World) (hu : IntsR u a L) => nums_any L L.length a c u Y F hY hF hu rfl (by
    simp only [parts, List.mem_cons, List.not_mem_nil, or_false] at hL
    have k1 := h.nbuds
    have k2 := h.ngones
    have k3 := h.fewB
    have k4 := h.fewG
    rcases hL with rfl | rfl | rfl
    · simp
    · omega
    · omega) (by
    simp only [parts, List.mem_cons, List.not_mem_nil, or_false] at hL
    rcases hL with rfl | rfl | rfl
    · intro z hz
      simp only [List.mem_cons, List.not_mem_nil, or_false] at hz
      rcases hz with rfl | rfl
      · exact h.fitS
      · exact h.fitC
    · exact h.fitB
    · exact h.fitG))
  have HXX := Lib.hid hX
  have HEE := Lib.hid hE
  have HB := Lib.hid hb
  clear h hX hE hb
  go_enter Try.func14, Try.ntmps14
  go_upto_region 1 with (fail)
  generalize w.alloc (.cells #[.string g, .int .i64 r.servers, .int .i64 r.clients, .slice ab nb cb, .slice ag ng cg] 24) = w0 at *
  obtain ⟨c0, c1, c2, c3, c4⟩ := HX.out.2.2 w0 (Below.refl _ _)
  cases b with
  | false =>
    have hp : print r = .error 1 := by rw [print, if_neg (by rw [← HB.out]; simp)]
    have hXe : X = ⟨#[]⟩ := by rw [HXX.out, hp]; rfl
    have hEe : E = 1 := by rw [HEE.out, hp]; rfl
    subst hXe
    subst hEe
    clear hp
    go_wp2_with fail
    refine (R1.out _ HR.out).mono ?_
    rintro e w1 ⟨rfl, hb1⟩
    have HB1 := Lib.hid (HX.out.1.trans (hb1.mono HX.out.1.size))
    clear hb1 c0 c1 c2 c3 c4
    go_wp2
    go_ret2
    exact ⟨rfl, HB1.out⟩
  | true =>
    go_wp2_with fail
    refine (R1.out _ HR.out).mono ?_
    rintro e w1 ⟨rfl, hb1⟩
    have HB1 := Lib.hid hb1
    clear c0 c1 c2 c3 c4
    obtain ⟨c0, c1, c2, c3, c4⟩ := HX.out.2.2 w1 hb1
    clear hb1
    have hp : print r = lay r := by rw [print, if_pos HB.out.symm]
    cases hs : str r.group with
    | error y =>
      have hpe : print r = .error y := by rw [hp, lay, hs, glue_error]
      have hXe : X = ⟨#[]⟩ := by rw [HXX.out, hpe]; rfl
      have hEe : E = (y : Int) := by rw [HEE.out, hpe]; rfl
      subst hXe
      subst hEe
      have hy := str_err _ _ hs
      have hne : ((y : Int) != 0) = true := by simp; omega
      have R2e := Lib.hid (fun u => R2.out ⟨#[]⟩ (y : Int) (by rw [hs]; rfl) (by rw [hs]; rfl) u)
      clear hp hpe hs hy
      go_wp2_with fail
      refine (R2e.out _).mono ?_
      rintro e w2 ⟨rfl, hb2⟩
      have HB2 := Lib.hid (HX.out.1.trans ((HB1.out.trans (hb2.mono HB1.out.size)).mono HX.out.1.size))
      clear hb2 c0 c1 c2 c3 c4
      go_wp2
      go_ret2
      exact ⟨rfl, HB2.out⟩
    | ok a =>
      have hpa : print r = Prt.ahead a (layFrom ((parts r).drop 0)) := by rw [hp, lay_from r a hs]; rfl
      have hal := str_length _ _ hs
      obtain ⟨A, hA⟩ : ∃ A, A = tx a := ⟨_, rfl⟩
      have R2o := Lib.hid (fun u => R2.out A 0 (by rw [hs, hA]; rfl) (by rw [hs]; rfl) u)
      have HPA := Lib.hid hpa
      have HA := Lib.hid hA
      have HAL := Lib.hid hal
      have hne : ((0 : Int) != 0) = false := by simp
      clear hp hpa hs hal hA
      go_wp2_with fail
      refine (R2o.out _).mono ?_
      rintro e w2 ⟨rfl, hb2⟩
      have HB2 := Lib.hid (HB1.out.trans (hb2.mono HB1.out.size))
      clear hb2 c0 c1 c2 c3 c4
      obtain ⟨c0, c1, c2, c3, c4⟩ := HX.out.2.2 w2 HB2.out
      obtain ⟨d0, d1, d2, d3, d4⟩ := HX.out.2.2 (w2.alloc (.cells #[.int .i64 r.servers, .int .i64 r.clients] 3)) (HB2.out.alloc HB2.out.size _)
      go_upto_region 7 with (fail)
      clear c0 c1 c2 c3 c4 d0 d1 d2 d3 d4
      have hr2 := HR.out.below HB2.out
      have hrow := rows_print w2 r.servers r.clients r.buddies r.gone ab ag nb ng cb cg 3 22 hr2.nbuds hr2.ngones hr2.buds hr2.gones
      have hb3 : Below w0.heap.size w0 ((w2.alloc (.cells #[.int .i64 r.servers, .int .i64 r.clients] 3)).alloc (.cells #[.slice (some ⟨w2.heap.size, 0, none⟩) 2 2, .slice ab nb cb, .slice ag ng cg] 22)) := (HB2.out.alloc HB2.out.size _).alloc (Nat.le_trans HB2.out.size (by simp)) _
      clear hr2
      generalize (w2.alloc (.cells #[.int .i64 r.servers, .int .i64 r.clients] 3)).alloc (.cells #[.slice (some ⟨w2.heap.size, 0, none⟩) 2 2, .slice ab nb cb, .slice ag ng cg] 22) = w3 at *
      have HROW := Lib.hid (show RowsR w3 (w2.heap.size + 1) (parts r) from hrow)
      have HB3 := Lib.hid hb3
      clear hrow hb3
      obtain ⟨bx, hbx⟩ : ∃ bx, bx = w2.heap.size + 1 := ⟨_, rfl⟩
      rw [← hbx] at HROW ⊢
      clear hbx
      have hlen : (parts r).length = 3 := rfl
      go_loopw [4, 33] (fun ov i wr => ∃ (j : Nat) (acc : List UInt8) (T : ByteArray), j ≤ 3 ∧ i = .int .i64 j ∧ ov = .string T ∧ T = tx acc ∧ acc.length ≤ 6002 + 2000000 * j ∧ print r = Prt.ahead acc (layFrom ((parts r).drop j)) ∧ Below w3.heap.size w3 wr) (fun _ i _ => 3 - (intOf i).toNat)
      case atStart => exact ⟨0, a, A, by omega, rfl, rfl, HA.out, by have := HAL.out; omega, HPA.out, Below.refl _ _⟩
      case round =>
        obtain ⟨j, acc, T, hj, rfl, rfl, hT, hacc, hpr, hbel⟩ := hrel
        have HW := Lib.hid hbel
        have HT := Lib.hid hT
        have HAC := Lib.hid hacc
        have HPR := Lib.hid hpr
        clear hbel hT hacc hpr
        by_cases hlt : j < 3
        · obtain ⟨L, hL⟩ : ∃ L, (parts r)[j]? = some L := ⟨_, List.getElem?_eq_getElem (by rw [hlen]; exact hlt)⟩
          obtain ⟨ax, c1, hc, hx⟩ := HROW.out.2 j L hL
          have hcc := (HW.out.cell (p := ⟨bx, j, none⟩) HROW.out.1).trans hc
          have hmem := List.mem_of_getElem? hL
          obtain ⟨M, hM⟩ : ∃ M, M = L.length := ⟨_, rfl⟩
          cases hl : layAll num L with
          | error y =>
            have hpe := HPR.out.trans (from_error (parts r) j L acc y hL hl)
            have hXe : X = ⟨#[]⟩ := by rw [HXX.out, hpe]; rfl
            have hEe : E = (y : Int) := by rw [HEE.out, hpe]; rfl
            subst hXe
            subst hEe
            have hy := lay_err _ _ hl
            have hne2 : ((y : Int) != 0) = true := by simp; omega
            have R4 := Lib.hid (RN.out L hmem ax c1 ⟨#[]⟩ (y : Int) (by rw [hl]; rfl) (by rw [hl]; rfl) wr (hx.below HW.out))
            rw [← hM] at hcc R4
            clear hpe hy hl hL hmem hc hx hM
            go_wp2_with fail
            refine R4.out.mono ?_
            rintro e w4 ⟨rfl, hb4⟩
            have HZ := Lib.hid (HX.out.1.trans ((HB3.out.trans ((HW.out.trans (hb4.mono HW.out.size)).mono HB3.out.size)).mono HX.out.1.size))
            clear hb4 hcc
            go_wp2
            go_ret2
            exact ⟨rfl, HZ.out⟩
          | ok y =>
            have hpn := HPR.out.trans (from_ok (parts r) j L acc y hL hl)
            have hys := lay_size _ _ hl
            obtain ⟨Y, hY⟩ : ∃ Y, Y = tx y := ⟨_, rfl⟩
            have R4 := Lib.hid (RN.out L hmem ax c1 Y 0 (by rw [hl, hY]; rfl) (by rw [hl]; rfl) wr (hx.below HW.out))
            rw [← hM] at hcc R4
            have hTs : T.size = acc.length := by rw [HT.out, tx_size]
            have hYs : Y.size = y.length := by rw [hY, tx_size]
            have hsum : ¬ 9223372036854775807 < T.size + Y.size := by have := HAC.out; omega
            have hTY : T ++ Y = tx (acc ++ y) := by
              rw [HT.out, hY]
              apply ByteArray.ext
              apply Array.ext'
              simp
            have HPN := Lib.hid hpn
            have HTY := Lib.hid hTY
            have HLEN := Lib.hid (show (acc ++ y).length ≤ 6002 + 2000000 * (j + 1) by rw [List.length_append]; have := HAC.out; omega)
            clear hpn hys hl hL hmem hc hx hM hTs hYs hY hTY
            go_wp2_with fail
            refine R4.out.mono ?_
            rintro e w4 ⟨rfl, hb4⟩
            have HZ := Lib.hid (HW.out.trans (hb4.mono HW.out.size))
            clear hb4 hcc
            go_wp2
            go_roundw
            case rel => exact ⟨j + 1, acc ++ y, _, by omega, by go_num, rfl, HTY.out, HLEN.out, HPN.out, HZ.out⟩
            case measure => simp [intOf]; omega
        · obtain rfl : j = 3 := by omega
          have hpe : print r = .ok acc := by
            rw [HPR.out, show (parts r).drop 3 = [] from rfl, layFrom, ahead_last]
          have hXe : X = T := by rw [HXX.out, hpe, HT.out]; rfl
          have hEe : E = 0 := by rw [HEE.out, hpe]; rfl
          subst hXe
          subst hEe
          have HZ := Lib.hid (HX.out.1.trans ((HB3.out.trans (HW.out.mono HB3.out.size)).mono HX.out.1.size))
          clear hpe
          go_wp2
          go_ret2
          exact ⟨rfl, HZ.out⟩
end Go.Proofs.Ytofnjonmfgdpaaa.Ros
