/-
  climbed of package grove answers what the plain mathematics of the text Grv says, in a row of its own, and leaves all memory that was there as it was. Conditions: those that it names; the constant table of package digest lies as the program's text lays it.
-/
import Derived.Test.YtncafbejgidliaaDoorGrvE
import Derived.Test.YtncafbejgidliaaDoorSpots
import Derived.Deep.RegionHeldLaw
namespace Go.Proofs.YtncafbejgidliaaDoor.Grv
open Go.RowKit Mur Sha Chn
set_option maxRecDepth 100000

/-- What climbed answers. -/
def ClimbedPost (RES : Option (Hand × List UInt8)) (base : Nat) (e : Ending) (w' : World) : Prop := match RES with
  | none => e = .returned (.tuple #[.slice none 0 0, .string ⟨#[]⟩, .bool false])
  | some r => ∃ v, e = .returned (.tuple #[v, .string (tx r.2), .bool true]) ∧ w'.ownsRow base 57 2 v r.1.length (Spots.spotsV r.1)
/-- What lies beside: a spot, and the shape. -/
structure Beside (na ns nz : Nat) (k : Int) (X : ByteArray) (N h : Int) (u : World) : Prop where
  a0 : u.cell? ⟨na, 0, none⟩ = some (.int .i64 k)
  a1 : u.cell? ⟨na, 1, none⟩ = some (.string X)
  c0 : u.cell? ⟨ns, 0, none⟩ = some (.int .i64 N)
  c1 : u.cell? ⟨ns, 1, none⟩ = some (.int .i64 h)
  la : na < u.heap.size
  lc : ns < u.heap.size
theorem Beside.all {na ns nz : Nat} {k : Int} {X : ByteArray} {N h : Int} {u : World} (b : Beside na ns nz k X N h u) : u.cell? ⟨na, 0, none⟩ = some (.int .i64 k) ∧ u.cell? ⟨na, 1, none⟩ = some (.string X) ∧ u.cell? ⟨ns, 0, none⟩ = some (.int .i64 N) ∧ u.cell? ⟨ns, 1, none⟩ = some (.int .i64 h) ∧ Beside na ns nz k X N h u :=
  ⟨b.a0, b.a1, b.c0, b.c1, b⟩
theorem Beside.next {na ns nz : Nat} {k : Int} {X : ByteArray} {N h : Int} {u u' : World} (b : u.cell? ⟨na, 0, none⟩ = some (.int .i64 k) ∧ u.cell? ⟨na, 1, none⟩ = some (.string X) ∧ u.cell? ⟨ns, 0, none⟩ = some (.int .i64 N) ∧ u.cell? ⟨ns, 1, none⟩ = some (.int .i64 h) ∧ Beside na ns nz k X N h u) (q : Below u.heap.size u u') : Beside na ns nz k X N h u' :=
  have b := b.2.2.2.2
  ⟨(q.cell (p := ⟨na, 0, none⟩) b.la).trans b.a0, (q.cell (p := ⟨na, 1, none⟩) b.la).trans b.a1, (q.cell (p := ⟨ns, 0, none⟩) b.lc).trans b.c0, (q.cell (p := ⟨ns, 1, none⟩) b.lc).trans b.c1, Nat.lt_of_lt_of_le b.la q.size, Nat.lt_of_lt_of_le b.lc q.size⟩
theorem Beside.grown {na ns nz : Nat} {k : Int} {X : ByteArray} {N h : Int} {u u' : World} {row : Option Nat} (b : u.cell? ⟨na, 0, none⟩ = some (.int .i64 k) ∧ u.cell? ⟨na, 1, none⟩ = some (.string X) ∧ u.cell? ⟨ns, 0, none⟩ = some (.int .i64 N) ∧ u.cell? ⟨ns, 1, none⟩ = some (.int .i64 h) ∧ Beside na ns nz k X N h u) (q : u.grownBy u' row) (hr : ∀ j, row = some j → nz ≤ j ∧ j < na) (hs : ns < nz) : Beside na ns nz k X N h u' := by
  have b := b.2.2.2.2
  have h1 : some na ≠ row := fun e => by have := (hr na e.symm).2; omega
  have h2 : some ns ≠ row := fun e => by have := (hr ns e.symm).1; omega
  have lt : ∀ (g i : Nat) (v : Value), u'.cell? ⟨g, i, none⟩ = some v → g < u'.heap.size := fun g i v hv => by
    rcases Nat.lt_or_ge g u'.heap.size with hh | hh
    · exact hh
    · simp [World.cell?, Array.getElem?_eq_none hh] at hv
  have e0 := q.cell b.a0 h1
  have e2 := q.cell b.c0 h2
  exact ⟨e0, q.cell b.a1 h1, e2, q.cell b.c1 h2, lt _ _ _ e0, lt _ _ _ e2⟩
theorem cut_drop (p : ByteArray) (N : Nat) (h : N ≤ p.size) : p.extract N p.size = tx (p.data.toList.drop N) := by
  rw [piece_cut p N (p.size - N) p.size (by omega)]
  have e : p.data.toList.length = p.size := rfl
  rw [List.take_of_length_le (by rw [List.length_drop]; omega)]
theorem cut_head (p : ByteArray) (N : Nat) : p.extract 0 N = tx (p.data.toList.take N) := by
  have := piece_cut p 0 N N (by omega)
  rw [List.drop_zero] at this
  exact this

set_option maxHeartbeats 6400000 in
theorem climbed_any (N z n : Nat) (h : Int) (room pr : ByteArray) (hd : Hand) (g o c : Nat) (w : World) (hN : 2 ≤ N ∧ N ≤ 32) (hz : z ≤ 100) (hn : hd.length = n) (hnc : n ≤ c) (hn2 : n ≤ 1000000) (hb : ∀ p ∈ hd, p.1 ≤ 1000000 ∧ p.2.length ≤ 1000000) (hs : room.size ≤ 34359738368) (RES : Option (Hand × List UInt8)) (hRES : RES = climbed N room.data.toList z hd pr.data.toList)
    (hg : g < w.heap.size) (hc : ∀ i p, hd[i]? = some p → w.cell? ⟨g, o + 2 * i, none⟩ = some (.int .i64 (p.1 : Int)) ∧ w.cell? ⟨g, o + (2 * i + 1), none⟩ = some (.string (tx p.2))) (hk : Consts w) :
    Calls Tryd.prog 37 #[.agg #[.int .i64 (N : Int), .int .i64 h], .string room, .int .i64 (z : Int), .slice (some ⟨g, o, none⟩) n c, .string pr] w
      fun e w' => Below w.heap.size w w' ∧ ClimbedPost RES w.heap.size e w' := by
  have RA := Lib.hid (fun (k : Nat) (hkk : k ≤ 1000000) (x y V : ByteArray) (hx : x.size ≤ 1000000) (hy : y.size ≤ 1000000) (hV : V = tx (asOneT N room.data.toList z k x.data.toList y.data.toList)) (u : World) (hu : Consts u) => asOne_any N z k h room x y V u hN.2 hz hkk (by omega) hV hu)
  have HRES := Lib.hid hRES
  have HNN := Lib.hid hn
  clear hRES
  have hmk := fun u => Spots.make_room u n (n : Int) rfl (by omega)
  have hB0 := (Below.refl w.heap.size w).alloc (Nat.le_refl _) (.cells #[.int .i64 (N : Int), .int .i64 h] 23)
  have hc0 : (w.alloc (.cells #[.int .i64 (N : Int), .int .i64 h] 23)).cell? ⟨w.heap.size, 0, none⟩ = some (.int .i64 (N : Int)) := by simp
  have hc1 : (w.alloc (.cells #[.int .i64 (N : Int), .int .i64 h] 23)).cell? ⟨w.heap.size, 1, none⟩ = some (.int .i64 h) := by simp
  have hl0 : w.heap.size < (w.alloc (.cells #[.int .i64 (N : Int), .int .i64 h] 23)).heap.size := by simp
  go_enter Tryd.func37, Tryd.ntmps37
  go_upto_region 1 with (fail)
  generalize hwz : w.alloc (.cells #[.int .i64 (N : Int), .int .i64 h] 23) = wz at *
  have HC := Lib.hid (fun (u : World) (q : Below wz.heap.size wz u) => (⟨(q.cell (p := ⟨w.heap.size, 0, none⟩) hl0).trans hc0, (q.cell (p := ⟨w.heap.size, 1, none⟩) hl0).trans hc1, hk.below hk.1 (hB0.trans (q.mono hB0.size)), fun i p hp => ⟨((hB0.trans (q.mono hB0.size)).cell (p := ⟨g, o + 2 * i, none⟩) hg).trans (hc i p hp).1, ((hB0.trans (q.mono hB0.size)).cell (p := ⟨g, o + (2 * i + 1), none⟩) hg).trans (hc i p hp).2⟩⟩ :
    u.cell? ⟨w.heap.size, 0, none⟩ = some (.int .i64 (N : Int)) ∧ u.cell? ⟨w.heap.size, 1, none⟩ = some (.int .i64 h) ∧ Consts u ∧ ∀ i p, hd[i]? = some p → u.cell? ⟨g, o + 2 * i, none⟩ = some (.int .i64 (p.1 : Int)) ∧ u.cell? ⟨g, o + (2 * i + 1), none⟩ = some (.string (tx p.2))))
  have HB0 := Lib.hid hB0
  have HL0 := Lib.hid hl0
  have HGW := Lib.hid (show g < wz.heap.size from Nat.lt_of_lt_of_le hg hB0.size)
  clear hB0 hl0 hk hg hc hc0 hc1 hwz
  go_upto_region 2 with (fail)
  have hown0 := World.ownsRow_made (base := wz.heap.size) (e := 57) (size := 2) wz (madeCells #[.int .i64 0, .string ⟨#[]⟩] (n * 2)) n (Nat.le_refl _) (by unfold maxLen; omega) (by simp [madeCells])
  have HW0 := Lib.hid ((Below.refl wz.heap.size wz).alloc (Nat.le_refl _) (.cells (madeCells #[.int .i64 0, .string ⟨#[]⟩] (n * 2)) 57))
  have HOWN0 := Lib.hid hown0
  clear hown0 hmk
  generalize wz.alloc (.cells (madeCells #[.int .i64 0, .string ⟨#[]⟩] (n * 2)) 57) = w3 at *
  go_loopw [3, 4, 13, 14, 15] (fun hv pv av _ _ wr => ∃ (k m cc : Nat) (ao : Option Addr) (p : ByteArray) (acc : Hand) (v : Value), k + m = n ∧ k + cc = c ∧ hv = .slice ao m cc ∧ (0 < m → ao = some ⟨g, o + 2 * k, none⟩) ∧ pv = .string p ∧ av = v ∧ acc.length ≤ k ∧
      climbed N room.data.toList z hd pr.data.toList = (climbed N room.data.toList z (hd.drop k) p.data.toList).map (fun r => (acc ++ r.1, r.2)) ∧ wr.ownsRow wz.heap.size 57 2 v acc.length (Spots.spotsV acc) ∧ Below wz.heap.size wz wr) (fun hv _ _ _ _ _ => match hv with | .slice _ m _ => m | _ => 0)
  case atStart => exact ⟨0, n, c, some ⟨g, o, none⟩, pr, [], _, by omega, by omega, rfl, fun _ => rfl, rfl, rfl, Nat.le_refl _, by
    rw [List.drop_zero]
    cases climbed N room.data.toList z hd pr.data.toList <;> rfl, HOWN0.out, HW0.out⟩
  case round =>
    clear HOWN0 HW0
    obtain ⟨k, m, cc, ao, p, acc, v, hkm, hkc, rfl, hao, rfl, rfl, hacc, hcl, hown, hbel⟩ := hrel
    have HW := Lib.hid hbel
    have HOWN := Lib.hid hown
    have HCL := Lib.hid hcl
    clear hbel hown hcl
    by_cases hm : 0 < m
    · obtain rfl := hao hm
      have hkl : k < hd.length := by omega
      obtain ⟨k1, x, hpt⟩ : ∃ k1 x, hd[k] = (k1, x) := ⟨_, _, rfl⟩
      have hdrop : hd.drop k = (k1, x) :: hd.drop (k + 1) := by rw [List.drop_eq_getElem_cons hkl, hpt]
      obtain ⟨c0, c1, hk4, hcell⟩ := HC.out _ HW.out
      obtain ⟨d0, d1⟩ := hcell k (k1, x) (by rw [List.getElem?_eq_getElem hkl, hpt])
      obtain ⟨X, hX⟩ : ∃ X, X = tx x := ⟨_, rfl⟩
      rw [← hX] at d1
      simp only at d0 d1
      have HK4 := Lib.hid hk4
      have HCE := Lib.hid hcell
      clear hk4 hcell
      obtain ⟨ob, hob⟩ : ∃ ob, ob = o + 2 * k := ⟨_, rfl⟩
      have hob1 : o + (2 * k + 1) = ob + 1 := by omega
      rw [← hob] at d0 ⊢
      rw [hob1] at d1
      have HOB := Lib.hid hob
      have HDR := Lib.hid hdrop
      have HPT := Lib.hid hpt
      have HX := Lib.hid hX
      clear hob hob1 hdrop hpt hX
      go_upto_region 6 with (fail)
      have hmc : m ≤ cc := by omega
      obtain ⟨m1, hm1⟩ : ∃ m1, m1 = m - 1 := ⟨_, rfl⟩
      obtain ⟨cc1, hcc1⟩ : ∃ cc1, cc1 = cc - 1 := ⟨_, rfl⟩
      have hao1 : 0 < m1 → (if cc = 1 then (some ⟨g, ob, none⟩ : Option Addr) else some ⟨g, ob + 2, none⟩) = some ⟨g, ob + 2, none⟩ := fun h => if_neg (by omega)
      rw [← hm1, ← hcc1]
      generalize (if cc = 1 then (some ⟨g, ob, none⟩ : Option Addr) else some ⟨g, ob + 2, none⟩) = ao1 at *
      obtain ⟨na, hna⟩ : ∃ na, na = wr.heap.size := ⟨_, rfl⟩
      have hown_lt := HOWN.out.lt
      rw [← hna] at hown_lt
      have hA := HW.out.alloc HW.out.size (.cells #[.int .i64 (k1 : Int), .string X] 57)
      have ha0 : (wr.alloc (.cells #[.int .i64 (k1 : Int), .string X] 57)).cell? ⟨na, 0, none⟩ = some (.int .i64 (k1 : Int)) := by rw [hna]; simp
      have ha1 : (wr.alloc (.cells #[.int .i64 (k1 : Int), .string X] 57)).cell? ⟨na, 1, none⟩ = some (.string X) := by rw [hna]; simp
      have hal : na < (wr.alloc (.cells #[.int .i64 (k1 : Int), .string X] 57)).heap.size := by rw [hna]; simp
      have hoA := HOWN.out.alloc (.cells #[.int .i64 (k1 : Int), .string X] 57)
      rw [← hna]
      clear hna c0 c1 d0 d1
      generalize wr.alloc (.cells #[.int .i64 (k1 : Int), .string X] 57) = wa at *
      have HA := Lib.hid hA
      have HOA := Lib.hid hoA
      have HAL := Lib.hid hal
      have HAN := Lib.hid hown_lt
      have HGL := Lib.hid (show g < wa.heap.size from Nat.lt_of_lt_of_le HGW.out hA.size)
      have HAT := Lib.hid (fun (u : World) (q : Below wa.heap.size wa u) => (⟨(q.cell (p := ⟨na, 0, none⟩) hal).trans ha0, (q.cell (p := ⟨na, 1, none⟩) hal).trans ha1⟩ : u.cell? ⟨na, 0, none⟩ = some (.int .i64 (k1 : Int)) ∧ u.cell? ⟨na, 1, none⟩ = some (.string X)))
      have HCA := Lib.hid (fun (u : World) (q : Below wa.heap.size wa u) => HC.out u (HA.out.trans (q.mono HA.out.size)))
      have HM1 := Lib.hid hm1
      have HCC1 := Lib.hid hcc1
      clear hA hoA ha0 ha1 hal hown_lt hm1 hcc1 HW HOWN HK4 HCE
      have hk1 : k1 ≤ 1000000 := (hb (k1, x) (by rw [← HPT.out]; exact List.getElem_mem hkl)).1
      have hx1 : x.length ≤ 1000000 := (hb (k1, x) (by rw [← HPT.out]; exact List.getElem_mem hkl)).2
      obtain ⟨s1, hs1⟩ : ∃ s1, s1 = sib k1 := ⟨_, rfl⟩
      have hxo : bits .xor .i64 (k1 : Int) 1 = (s1 : Int) := by rw [hs1]; exact xor_one k1 (by omega)
      have HS1 := Lib.hid hs1
      clear hs1
      obtain ⟨a0, a1⟩ := HAT.out wa (Below.refl _ _)
      by_cases hm10 : 0 < m1
      · obtain rfl := hao1 hm10
        have hkl2 : k + 1 < hd.length := by have := HM1.out; omega
        obtain ⟨k2, y, hpt2⟩ : ∃ k2 y, hd[k + 1] = (k2, y) := ⟨_, _, rfl⟩
        have hdrop2 : hd.drop (k + 1) = (k2, y) :: hd.drop (k + 2) := by rw [List.drop_eq_getElem_cons hkl2, hpt2]
        have hcell2 := (HCA.out wa (Below.refl _ _)).2.2.2 (k + 1) (k2, y) (by rw [List.getElem?_eq_getElem hkl2, hpt2])
        obtain ⟨Y, hY⟩ : ∃ Y, Y = tx y := ⟨_, rfl⟩
        rw [← hY, show o + 2 * (k + 1) = ob + 2 by have := HOB.out; omega, show o + (2 * (k + 1) + 1) = ob + 2 + 1 by have := HOB.out; omega] at hcell2
        obtain ⟨e0, e1⟩ := hcell2
        simp only at e0 e1
        have hk2 := (hb (k2, y) (by rw [← hpt2]; exact List.getElem_mem hkl2))
        have HK2 := Lib.hid hk2
        have HDR2 := Lib.hid hdrop2
        have HY := Lib.hid hY
        clear hpt2 hdrop2 hY hk2
        have g1 : decide ((0 : Int) < (m1 : Int)) = true := by simp; omega
        have g2 : decide (0 < m1) = true := by simp; omega
        have HE := Lib.hid (fun (u : World) (q : Below wa.heap.size wa u) => (⟨(q.cell (p := ⟨g, ob + 2, none⟩) (HGL.out)).trans e0, (q.cell (p := ⟨g, ob + 2 + 1, none⟩) (HGL.out)).trans e1⟩ : u.cell? ⟨g, ob + 2, none⟩ = some (.int .i64 (k2 : Int)) ∧ u.cell? ⟨g, ob + 2 + 1, none⟩ = some (.string Y)))
        by_cases heq : k2 = s1
        · have g3 : ((k2 : Int) == (s1 : Int)) = true := by rw [heq]; simp
          have HEQ := Lib.hid heq
          clear heq
          go_quiet (fail)
          have HQ0 := Lib.hid (belowN (Below.refl wa.heap.size wa) nq)
          generalize wa.drewN nq = wq0 at *
          clear e0 e1 a0 a1 g1 g2 g3 hxo
          obtain ⟨e0, e1⟩ := HE.out _ HQ0.out
          go_upto_region 7 with (fail)
          go_quiet (fail)
          have HQ := Lib.hid (HQ0.out.trans ((belowN (Below.refl wq0.heap.size wq0) nq).mono HQ0.out.size))
          generalize wq0.drewN nq = wq at *
          clear e0 e1
          obtain ⟨mm, hmm⟩ : ∃ mm, mm = m1 - 1 := ⟨_, rfl⟩
          obtain ⟨cc', hcc'⟩ : ∃ cc', cc' = cc1 - 1 := ⟨_, rfl⟩
          have hao2 : 0 < mm → (if cc1 = 1 then (some ⟨g, ob + 2, none⟩ : Option Addr) else some ⟨g, ob + 2 + 2, none⟩) = some ⟨g, o + 2 * (k + 2), none⟩ := fun h => by
            rw [if_neg (by have := HCC1.out; have := HM1.out; omega), HOB.out, show o + 2 * k + 2 + 2 = o + 2 * (k + 2) by omega]
          rw [← hmm, ← hcc']
          generalize (if cc1 = 1 then (some ⟨g, ob + 2, none⟩ : Option Addr) else some ⟨g, ob + 2 + 2, none⟩) = ao' at *
          obtain ⟨kk, hkk⟩ : ∃ kk, kk = k + 2 := ⟨_, rfl⟩
          have HAO := Lib.hid (show 0 < mm → ao' = some ⟨g, o + 2 * kk, none⟩ from by rw [hkk]; exact hao2)
          have HK := Lib.hid (show kk + mm = n ∧ kk + cc' = c ∧ mm < m ∧ acc.length + 1 ≤ kk from by have := HM1.out; have := HCC1.out; omega)
          obtain ⟨YB, yb, pp, hYB1, hyb1, hpp1⟩ : ∃ (YB : ByteArray) (yb : List UInt8) (pp : ByteArray), YB = Y ∧ yb = y ∧ pp = p := ⟨_, _, _, rfl, rfl, rfl⟩
          have HYB := Lib.hid (show YB = tx yb from by rw [hYB1, hyb1]; exact HY.out)
          have hyb : YB.size ≤ 1000000 := by
            have e1 : YB.size = yb.length := by rw [HYB.out]; rfl
            rw [e1, hyb1]
            exact HK2.out.2
          have HSTEP := Lib.hid (show climbed N room.data.toList z (hd.drop k) p.data.toList = (climbed N room.data.toList z (hd.drop kk) pp.data.toList).map (fun r => ((k1 / 2, asOneT N room.data.toList z k1 x yb) :: r.1, r.2)) from by
            rw [HDR.out, HDR2.out, climbed, if_pos (by rw [HEQ.out, HS1.out]), hkk, hyb1, hpp1])
          rw [← hYB1, ← hpp1]
          clear hmm hcc' hao2 hkk hYB1 hyb1 hpp1
          have RA1 := Lib.hid (fun (V : ByteArray) (hV : V = tx (asOneT N room.data.toList z k1 x yb)) (u : World) (q : Below wq.heap.size wq u) => RA.out k1 hk1 X YB V (by rw [HX.out]; exact hx1) hyb (by rw [hV, HX.out, HYB.out]) u (HCA.out u (HQ.out.trans (q.mono HQ.out.size))).2.2.1)
          obtain ⟨V, hV⟩ : ∃ V, V = tx (asOneT N room.data.toList z k1 x yb) := ⟨_, rfl⟩
          have RA2 := Lib.hid (RA1.out V hV)
          have HV := Lib.hid hV
          obtain ⟨kh, hkh⟩ : ∃ kh, kh = k1 / 2 := ⟨_, rfl⟩
          have hsh : (k1 : Int) / 2 = (kh : Int) := by rw [hkh]; rfl
          have HKH := Lib.hid hkh
          clear hV hkh
          go_upto_region 10 with (fail)
          obtain ⟨c0, c1, -⟩ := HCA.out _ (HQ.out.drew)
          obtain ⟨a0, a1⟩ := HAT.out _ (HQ.out.drew)
          have HS := Lib.hid (show Beside na w.heap.size wz.heap.size (k1 : Int) X (N : Int) h wq.drew from ⟨a0, a1, c0, c1, Nat.lt_of_lt_of_le HAL.out HQ.out.size, Nat.lt_of_lt_of_le HL0.out (Nat.le_trans HA.out.size HQ.out.size)⟩)
          clear a0 a1 c0 c1
          go_region_held_law (fun w' => w'.cell? ⟨na, 0, none⟩ = some (.int .i64 (k1 : Int)) ∧ w'.cell? ⟨na, 1, none⟩ = some (.string X) ∧ w'.cell? ⟨w.heap.size, 0, none⟩ = some (.int .i64 (N : Int)) ∧ w'.cell? ⟨w.heap.size, 1, none⟩ = some (.int .i64 h) ∧ Beside na w.heap.size wz.heap.size (k1 : Int) X (N : Int) h w')
            (first | exact HS.out.all | assumption | exact (Beside.next (by assumption) (by assumption)).all | exact (Beside.next (by assumption) ((Below.refl _ _).alloc (Nat.le_refl _) _)).all | exact (Beside.grown (by assumption) (by assumption) (fun j hj => HAN.out j hj) HL0.out).all)
            (first
            | (refine step_call rfl 27 Tryd.call27 #[.tmp 65, .tmp 66, .tmp 67, .tmp 68, .tmp 69] #[23, 9, 3, 57, 9] rfl #[.agg #[.int .i64 (N : Int), .int .i64 h], .string room, .int .i64 (z : Int), .agg #[.int .i64 (k1 : Int), .string X], .string YB] (by first | (simp [Act.eval]; done) | simp [Act.eval, Act.put]) _ _ (RA2.out _ ((Below.refl _ _).drew)) ?_; intro w6 hb6)
            | (refine Spots.step_append_text (by rfl) _ _ (by rfl) w6 kh V wz.heap.size acc.length _ acc (by rfl) (by rfl) (Strs.own_below HOA.out (HQ.out.drew.trans (hb6.mono HQ.out.size))) (by omega) (Nat.le_trans HA.out.size (Nat.le_trans HQ.out.size hb6.size)) ?_; intro v' w8 hown8 hgrow8))
          have hz6 : Below wz.heap.size wz w6 := HA.out.trans ((HQ.out.drew.trans (hb6.mono HQ.out.size)).mono HA.out.size)
          have HW8 := Lib.hid ((hz6.alloc hz6.size (.cells #[.int .i64 (kh : Int), .string V] 57)).grown hgrow8 (Nat.le_trans hz6.size (by simp)) (fun j hj => (HOA.out.lt j hj).1))
          have HO8 := Lib.hid hown8
          have hcl8 : climbed N room.data.toList z hd pr.data.toList = (climbed N room.data.toList z (hd.drop kk) pp.data.toList).map (fun r => ((acc ++ [(kh, V.data.toList)]) ++ r.1, r.2)) := by
            rw [HCL.out, HSTEP.out, Option.map_map, HKH.out, HV.out]
            congr 1
            funext r
            simp [Function.comp]
          have HCL8 := Lib.hid hcl8
          have HLN := Lib.hid (show (acc ++ [(kh, V.data.toList)]).length = acc.length + 1 from by simp)
          clear hz6 hown8 hgrow8 hb6 hsh hcl8
          go_wp2
          go_roundw
          case rel => exact ⟨_, _, _, _, _, _, ⟨kk, mm, HK.out.1, cc', HK.out.2.1, ao', rfl, HAO.out, pp, rfl, acc ++ [(kh, V.data.toList)], by rw [HLN.out]; exact HK.out.2.2.2, HCL8.out, by rw [HLN.out]; exact HO8.out, HW8.out⟩, rfl, rfl, rfl, rfl, rfl, rfl⟩
          case measure => exact HK.out.2.2.1
        · have g3 : ((k2 : Int) == (s1 : Int)) = false := by simp; omega
          have hne : ¬ k2 = sib k1 := by rw [← HS1.out]; exact heq
          have hstep : climbed N room.data.toList z (hd.drop k) p.data.toList = if p.data.toList.length < N then none else (climbed N room.data.toList z (hd.drop (k + 1)) (p.data.toList.drop N)).map (fun r => ((k1 / 2, asOneT N room.data.toList z k1 x (p.data.toList.take N)) :: r.1, r.2)) := by
            rw [HDR.out, HDR2.out, climbed, if_neg hne]
          have HST := Lib.hid hstep
          have hAO0 : 0 < m1 → (some ⟨g, ob + 2, none⟩ : Option Addr) = some ⟨g, o + 2 * (k + 1), none⟩ := fun _ => by rw [HOB.out]; rfl
          have HAO0 := Lib.hid hAO0
          clear heq hne hstep hAO0
          go_quiet (fail)
          have HQ0 := Lib.hid (belowN (Below.refl wa.heap.size wa) nq)
          generalize wa.drewN nq = wq0 at *
          clear e0 e1 a0 a1 g1 g2 g3 hxo
          generalize (some ⟨g, ob + 2, none⟩ : Option Addr) = ao1 at *
          obtain ⟨c0, c1, -⟩ := HCA.out _ HQ0.out
          by_cases hle : N ≤ p.size
          · have g4 : decide ((N : Int) ≤ (p.size : Int)) = true := by simp; omega
            have g5 : decide (N ≤ p.size) = true := by simp; omega
            obtain ⟨YB, hYB⟩ : ∃ YB, p.extract 0 N = YB := ⟨_, rfl⟩
            obtain ⟨pp, hpp⟩ : ∃ pp, p.extract N p.size = pp := ⟨_, rfl⟩
            obtain ⟨yb, hyb0⟩ : ∃ yb, yb = p.data.toList.take N := ⟨_, rfl⟩
            have HYB := Lib.hid (show YB = tx yb from by rw [← hYB, hyb0]; exact cut_head p N)
            have hyb : YB.size ≤ 1000000 := by
              have e1 : YB.size = yb.length := by rw [HYB.out]; rfl
              rw [e1, hyb0, List.length_take]
              omega
            obtain ⟨kk, hkk⟩ : ∃ kk, kk = k + 1 := ⟨_, rfl⟩
            obtain ⟨mm, hmm⟩ : ∃ mm, mm = m1 := ⟨_, rfl⟩
            obtain ⟨cc', hcc'⟩ : ∃ cc', cc' = cc1 := ⟨_, rfl⟩
            obtain ⟨ao', hao'⟩ : ∃ ao', ao' = ao1 := ⟨_, rfl⟩
            have HSTEP := Lib.hid (show climbed N room.data.toList z (hd.drop k) p.data.toList = (climbed N room.data.toList z (hd.drop kk) pp.data.toList).map (fun r => ((k1 / 2, asOneT N room.data.toList z k1 x yb) :: r.1, r.2)) from by
              have hpl : p.data.toList.length = p.size := rfl
              rw [HST.out, if_neg (by omega), hkk, hyb0, ← hpp, cut_drop p N hle])
            have HAO := Lib.hid (show 0 < mm → ao' = some ⟨g, o + 2 * kk, none⟩ from by rw [hmm, hkk, hao']; exact HAO0.out)
            have HK := Lib.hid (show kk + mm = n ∧ kk + cc' = c ∧ mm < m ∧ acc.length + 1 ≤ kk from by have := HM1.out; have := HCC1.out; omega)
            have hN1 : (N : Int) ≤ p.size := by omega
            have hN3 : (N : Int).toNat = N := by omega
            have hN4 : (0 : Int) ≤ (N : Int) := by omega
            have hN5 : (N : Int) ≤ 32 := by omega
            clear hyb0
            go_upto_region 9 with (fail)
            go_quiet (fail)
            have HQ := Lib.hid (HQ0.out.trans ((belowN (Below.refl wq0.heap.size wq0) nq).mono HQ0.out.size))
            generalize wq0.drewN nq = wq at *
            rw [← hmm, ← hcc', ← hao']
            clear hYB hpp hN1 hN3 hN4 hN5 hle g4 g5 c0 c1 hkk hmm hcc' hao'
            have RA1 := Lib.hid (fun (V : ByteArray) (hV : V = tx (asOneT N room.data.toList z k1 x yb)) (u : World) (q : Below wq.heap.size wq u) => RA.out k1 hk1 X YB V (by rw [HX.out]; exact hx1) hyb (by rw [hV, HX.out, HYB.out]) u (HCA.out u (HQ.out.trans (q.mono HQ.out.size))).2.2.1)
            obtain ⟨V, hV⟩ : ∃ V, V = tx (asOneT N room.data.toList z k1 x yb) := ⟨_, rfl⟩
            have RA2 := Lib.hid (RA1.out V hV)
            have HV := Lib.hid hV
            obtain ⟨kh, hkh⟩ : ∃ kh, kh = k1 / 2 := ⟨_, rfl⟩
            have hsh : (k1 : Int) / 2 = (kh : Int) := by rw [hkh]; rfl
            have HKH := Lib.hid hkh
            clear hV hkh
            go_upto_region 10 with (fail)
            obtain ⟨c0, c1, -⟩ := HCA.out _ (HQ.out.drew)
            obtain ⟨a0, a1⟩ := HAT.out _ (HQ.out.drew)
            have HS := Lib.hid (show Beside na w.heap.size wz.heap.size (k1 : Int) X (N : Int) h wq.drew from ⟨a0, a1, c0, c1, Nat.lt_of_lt_of_le HAL.out HQ.out.size, Nat.lt_of_lt_of_le HL0.out (Nat.le_trans HA.out.size HQ.out.size)⟩)
            clear a0 a1 c0 c1
            go_region_held_law (fun w' => w'.cell? ⟨na, 0, none⟩ = some (.int .i64 (k1 : Int)) ∧ w'.cell? ⟨na, 1, none⟩ = some (.string X) ∧ w'.cell? ⟨w.heap.size, 0, none⟩ = some (.int .i64 (N : Int)) ∧ w'.cell? ⟨w.heap.size, 1, none⟩ = some (.int .i64 h) ∧ Beside na w.heap.size wz.heap.size (k1 : Int) X (N : Int) h w')
              (first | exact HS.out.all | assumption | exact (Beside.next (by assumption) (by assumption)).all | exact (Beside.next (by assumption) ((Below.refl _ _).alloc (Nat.le_refl _) _)).all | exact (Beside.grown (by assumption) (by assumption) (fun j hj => HAN.out j hj) HL0.out).all)
              (first
              | (refine step_call rfl 27 Tryd.call27 #[.tmp 65, .tmp 66, .tmp 67, .tmp 68, .tmp 69] #[23, 9, 3, 57, 9] rfl #[.agg #[.int .i64 (N : Int), .int .i64 h], .string room, .int .i64 (z : Int), .agg #[.int .i64 (k1 : Int), .string X], .string YB] (by first | (simp [Act.eval]; done) | simp [Act.eval, Act.put]) _ _ (RA2.out _ ((Below.refl _ _).drew)) ?_; intro w6 hb6)
              | (refine Spots.step_append_text (by rfl) _ _ (by rfl) w6 kh V wz.heap.size acc.length _ acc (by rfl) (by rfl) (Strs.own_below HOA.out (HQ.out.drew.trans (hb6.mono HQ.out.size))) (by omega) (Nat.le_trans HA.out.size (Nat.le_trans HQ.out.size hb6.size)) ?_; intro v' w8 hown8 hgrow8))
            have hz6 : Below wz.heap.size wz w6 := HA.out.trans ((HQ.out.drew.trans (hb6.mono HQ.out.size)).mono HA.out.size)
            have HW8 := Lib.hid ((hz6.alloc hz6.size (.cells #[.int .i64 (kh : Int), .string V] 57)).grown hgrow8 (Nat.le_trans hz6.size (by simp)) (fun j hj => (HOA.out.lt j hj).1))
            have HO8 := Lib.hid hown8
            have hcl8 : climbed N room.data.toList z hd pr.data.toList = (climbed N room.data.toList z (hd.drop kk) pp.data.toList).map (fun r => ((acc ++ [(kh, V.data.toList)]) ++ r.1, r.2)) := by
              rw [HCL.out, HSTEP.out, Option.map_map, HKH.out, HV.out]
              congr 1
              funext r
              simp [Function.comp]
            have HCL8 := Lib.hid hcl8
            have HLN := Lib.hid (show (acc ++ [(kh, V.data.toList)]).length = acc.length + 1 from by simp)
            clear hz6 hown8 hgrow8 hb6 hsh hcl8
            go_wp2
            go_roundw
            case rel => exact ⟨_, _, _, _, _, _, ⟨kk, mm, HK.out.1, cc', HK.out.2.1, ao', rfl, HAO.out, pp, rfl, acc ++ [(kh, V.data.toList)], by rw [HLN.out]; exact HK.out.2.2.2, HCL8.out, by rw [HLN.out]; exact HO8.out, HW8.out⟩, rfl, rfl, rfl, rfl, rfl, rfl⟩
            case measure => exact HK.out.2.2.1
          · have g4 : decide ((N : Int) ≤ (p.size : Int)) = false := by simp; omega
            have g5 : decide (N ≤ p.size) = false := by simp; omega
            have hnone : RES = none := by
              have hpl : p.data.toList.length = p.size := rfl
              rw [HRES.out, HCL.out, HST.out, if_pos (by omega)]
              rfl
            clear hle
            go_wp2
            refine bodyPost_ret (v := .tuple #[.slice none 0 0, .string ⟨#[]⟩, .bool false]) (by simp [results, Tryd.results37, go_sem]) rfl ⟨HB0.out.trans ((HA.out.trans (HQ0.out.mono HA.out.size)).mono (Nat.le_of_lt HL0.out)), rfl⟩
      · have hm0 : m1 = 0 := by omega
        have hstep : climbed N room.data.toList z (hd.drop k) p.data.toList = if p.data.toList.length < N then none else (climbed N room.data.toList z (hd.drop (k + 1)) (p.data.toList.drop N)).map (fun r => ((k1 / 2, asOneT N room.data.toList z k1 x (p.data.toList.take N)) :: r.1, r.2)) := by
          have e : hd.drop (k + 1) = [] := List.drop_eq_nil_of_le (by have := HM1.out; have := HNN.out; omega)
          rw [HDR.out, e, climbed]
          rfl
        have HST := Lib.hid hstep
        have HAO0 := Lib.hid (show 0 < m1 → ao1 = some ⟨g, o + 2 * (k + 1), none⟩ from fun h => absurd h hm10)
        have g1 : decide ((0 : Int) < (m1 : Int)) = false := by simp; omega
        have g2 : decide (0 < m1) = false := by simp; omega
        clear hstep hao1 hm10 hm0
        go_quiet (fail)
        have HQ0 := Lib.hid (belowN (Below.refl wa.heap.size wa) nq)
        generalize wa.drewN nq = wq0 at *
        clear a0 a1 g1 g2 hxo
        obtain ⟨c0, c1, -⟩ := HCA.out _ HQ0.out
        by_cases hle : N ≤ p.size
        · have g4 : decide ((N : Int) ≤ (p.size : Int)) = true := by simp; omega
          have g5 : decide (N ≤ p.size) = true := by simp; omega
          obtain ⟨YB, hYB⟩ : ∃ YB, p.extract 0 N = YB := ⟨_, rfl⟩
          obtain ⟨pp, hpp⟩ : ∃ pp, p.extract N p.size = pp := ⟨_, rfl⟩
          obtain ⟨yb, hyb0⟩ : ∃ yb, yb = p.data.toList.take N := ⟨_, rfl⟩
          have HYB := Lib.hid (show YB = tx yb from by rw [← hYB, hyb0]; exact cut_head p N)
          have hyb : YB.size ≤ 1000000 := by
            have e1 : YB.size = yb.length := by rw [HYB.out]; rfl
            rw [e1, hyb0, List.length_take]
            omega
          obtain ⟨kk, hkk⟩ : ∃ kk, kk = k + 1 := ⟨_, rfl⟩
          obtain ⟨mm, hmm⟩ : ∃ mm, mm = m1 := ⟨_, rfl⟩
          obtain ⟨cc', hcc'⟩ : ∃ cc', cc' = cc1 := ⟨_, rfl⟩
          obtain ⟨ao', hao'⟩ : ∃ ao', ao' = ao1 := ⟨_, rfl⟩
          have HSTEP := Lib.hid (show climbed N room.data.toList z (hd.drop k) p.data.toList = (climbed N room.data.toList z (hd.drop kk) pp.data.toList).map (fun r => ((k1 / 2, asOneT N room.data.toList z k1 x yb) :: r.1, r.2)) from by
            have hpl : p.data.toList.length = p.size := rfl
            rw [HST.out, if_neg (by omega), hkk, hyb0, ← hpp, cut_drop p N hle])
          have HAO := Lib.hid (show 0 < mm → ao' = some ⟨g, o + 2 * kk, none⟩ from by rw [hmm, hkk, hao']; exact HAO0.out)
          have HK := Lib.hid (show kk + mm = n ∧ kk + cc' = c ∧ mm < m ∧ acc.length + 1 ≤ kk from by have := HM1.out; have := HCC1.out; omega)
          have hN1 : (N : Int) ≤ p.size := by omega
          have hN3 : (N : Int).toNat = N := by omega
          have hN4 : (0 : Int) ≤ (N : Int) := by omega
          have hN5 : (N : Int) ≤ 32 := by omega
          clear hyb0
          go_upto_region 9 with (fail)
          go_quiet (fail)
          have HQ := Lib.hid (HQ0.out.trans ((belowN (Below.refl wq0.heap.size wq0) nq).mono HQ0.out.size))
          generalize wq0.drewN nq = wq at *
          rw [← hmm, ← hcc', ← hao']
          clear hYB hpp hN1 hN3 hN4 hN5 hle g4 g5 c0 c1 hkk hmm hcc' hao'
          have RA1 := Lib.hid (fun (V : ByteArray) (hV : V = tx (asOneT N room.data.toList z k1 x yb)) (u : World) (q : Below wq.heap.size wq u) => RA.out k1 hk1 X YB V (by rw [HX.out]; exact hx1) hyb (by rw [hV, HX.out, HYB.out]) u (HCA.out u (HQ.out.trans (q.mono HQ.out.size))).2.2.1)
          obtain ⟨V, hV⟩ : ∃ V, V = tx (asOneT N room.data.toList z k1 x yb) := ⟨_, rfl⟩
          have RA2 := Lib.hid (RA1.out V hV)
          have HV := Lib.hid hV
          obtain ⟨kh, hkh⟩ : ∃ kh, kh = k1 / 2 := ⟨_, rfl⟩
          have hsh : (k1 : Int) / 2 = (kh : Int) := by rw [hkh]; rfl
          have HKH := Lib.hid hkh
          clear hV hkh
          go_upto_region 10 with (fail)
          obtain ⟨c0, c1, -⟩ := HCA.out _ (HQ.out.drew)
          obtain ⟨a0, a1⟩ := HAT.out _ (HQ.out.drew)
          have HS := Lib.hid (show Beside na w.heap.size wz.heap.size (k1 : Int) X (N : Int) h wq.drew from ⟨a0, a1, c0, c1, Nat.lt_of_lt_of_le HAL.out HQ.out.size, Nat.lt_of_lt_of_le HL0.out (Nat.le_trans HA.out.size HQ.out.size)⟩)
          clear a0 a1 c0 c1
          go_region_held_law (fun w' => w'.cell? ⟨na, 0, none⟩ = some (.int .i64 (k1 : Int)) ∧ w'.cell? ⟨na, 1, none⟩ = some (.string X) ∧ w'.cell? ⟨w.heap.size, 0, none⟩ = some (.int .i64 (N : Int)) ∧ w'.cell? ⟨w.heap.size, 1, none⟩ = some (.int .i64 h) ∧ Beside na w.heap.size wz.heap.size (k1 : Int) X (N : Int) h w')
            (first | exact HS.out.all | assumption | exact (Beside.next (by assumption) (by assumption)).all | exact (Beside.next (by assumption) ((Below.refl _ _).alloc (Nat.le_refl _) _)).all | exact (Beside.grown (by assumption) (by assumption) (fun j hj => HAN.out j hj) HL0.out).all)
            (first
            | (refine step_call rfl 27 Tryd.call27 #[.tmp 65, .tmp 66, .tmp 67, .tmp 68, .tmp 69] #[23, 9, 3, 57, 9] rfl #[.agg #[.int .i64 (N : Int), .int .i64 h], .string room, .int .i64 (z : Int), .agg #[.int .i64 (k1 : Int), .string X], .string YB] (by first | (simp [Act.eval]; done) | simp [Act.eval, Act.put]) _ _ (RA2.out _ ((Below.refl _ _).drew)) ?_; intro w6 hb6)
            | (refine Spots.step_append_text (by rfl) _ _ (by rfl) w6 kh V wz.heap.size acc.length _ acc (by rfl) (by rfl) (Strs.own_below HOA.out (HQ.out.drew.trans (hb6.mono HQ.out.size))) (by omega) (Nat.le_trans HA.out.size (Nat.le_trans HQ.out.size hb6.size)) ?_; intro v' w8 hown8 hgrow8))
          have hz6 : Below wz.heap.size wz w6 := HA.out.trans ((HQ.out.drew.trans (hb6.mono HQ.out.size)).mono HA.out.size)
          have HW8 := Lib.hid ((hz6.alloc hz6.size (.cells #[.int .i64 (kh : Int), .string V] 57)).grown hgrow8 (Nat.le_trans hz6.size (by simp)) (fun j hj => (HOA.out.lt j hj).1))
          have HO8 := Lib.hid hown8
          have hcl8 : climbed N room.data.toList z hd pr.data.toList = (climbed N room.data.toList z (hd.drop kk) pp.data.toList).map (fun r => ((acc ++ [(kh, V.data.toList)]) ++ r.1, r.2)) := by
            rw [HCL.out, HSTEP.out, Option.map_map, HKH.out, HV.out]
            congr 1
            funext r
            simp [Function.comp]
          have HCL8 := Lib.hid hcl8
          have HLN := Lib.hid (show (acc ++ [(kh, V.data.toList)]).length = acc.length + 1 from by simp)
          clear hz6 hown8 hgrow8 hb6 hsh hcl8
          go_wp2
          go_roundw
          case rel => exact ⟨_, _, _, _, _, _, ⟨kk, mm, HK.out.1, cc', HK.out.2.1, ao', rfl, HAO.out, pp, rfl, acc ++ [(kh, V.data.toList)], by rw [HLN.out]; exact HK.out.2.2.2, HCL8.out, by rw [HLN.out]; exact HO8.out, HW8.out⟩, rfl, rfl, rfl, rfl, rfl, rfl⟩
          case measure => exact HK.out.2.2.1
        · have g4 : decide ((N : Int) ≤ (p.size : Int)) = false := by simp; omega
          have g5 : decide (N ≤ p.size) = false := by simp; omega
          have hnone : RES = none := by
            have hpl : p.data.toList.length = p.size := rfl
            rw [HRES.out, HCL.out, HST.out, if_pos (by omega)]
            rfl
          clear hle
          go_wp2
          refine bodyPost_ret (v := .tuple #[.slice none 0 0, .string ⟨#[]⟩, .bool false]) (by simp [results, Tryd.results37, go_sem]) rfl ⟨HB0.out.trans ((HA.out.trans (HQ0.out.mono HA.out.size)).mono (Nat.le_of_lt HL0.out)), rfl⟩
    · obtain rfl : m = 0 := by omega
      have hdr : hd.drop k = [] := List.drop_eq_nil_of_le (by have := HNN.out; omega)
      have hres : RES = some (acc, p.data.toList) := by
        rw [HRES.out, HCL.out, hdr, climbed]
        simp
      have HF := Lib.hid hres
      clear hres hdr
      go_wp2
      refine bodyPost_ret (v := .tuple #[_, .string p, .bool true]) (by simp [results, Tryd.results37, go_sem]; rfl) rfl ⟨HB0.out.trans (HW.out.mono (Nat.le_of_lt HL0.out)), ?_⟩
      rw [HF.out]
      exact ⟨_, rfl, Strs.own_mono HOWN.out (Nat.le_of_lt HL0.out)⟩
end Go.Proofs.YtncafbejgidliaaDoor.Grv
